
/- dag: an order under way, how it lies -/
import Derived.Test.YtmlmacplkfnhkaaDgR
namespace Go.Proofs.Ytmlmacplkfnhkaa.DgA
open Go.RowKit Go.Lib Hp Mv Dg Ht Ao
set_option linter.unusedVariables false
set_option maxRecDepth 20000
def mf (f : Id → Option Int) : Id → Option Value := fun x => (f x).map fun i => .int .i64 i
theorem mf_some (f : Id → Option Int) (x : Id) : (mf f x).isSome = (f x).isSome := by unfold mf; simp
abbrev Mi (w : World) (b n : Nat) (f : Id → Option Int) : Prop := Mv.Mp Try.prog 44 ek wk w b n (mf f)
def updI (f : Id → Option Int) (x : Id) (i : Int) : Id → Option Int := fun y => if y = x then some i else f y
theorem mf_upd (f : Id → Option Int) (x : Id) (i : Int) : mf (updI f x i) = Mv.upd (mf f) x (.int .i64 i) := by
  funext y; unfold mf updI Mv.upd; split <;> rfl
theorem rgs_obj {w : World} {b r : Nat} {f : Id → Option Value} {es : List Id} {cnt : Nat} (h : Rgs Try.prog 44 ek wk w b r f es cnt) : ∃ m s e c, w.heap[r]? = some (.mapIter m s e c) := by
  obtain ⟨n, D, lf, ⟨es, clock, since, seen, c0, hb, F, hs, hD, hr, rest⟩, _⟩ := h
  exact ⟨_, _, _, _, hr⟩
theorem own_obj {w : World} {B : Nat} {e : TypeId} {k n : Nat} {v : Value} {xs : List Value} (h : w.ownsRow B e k v n xs) {b : Nat} (hb : v.ownBlock = some b) : B ≤ b ∧ ∃ cur, w.heap[b]? = some (.cells cur e (0, 0)) := by
  obtain ⟨h0, h1 | ⟨g, cap, cur, e2, hB, h2, _⟩⟩ := h
  · rw [h1.1] at hb; cases hb
  · rw [e2] at hb; cases hb; exact ⟨hB, cur, h2⟩
/-- what an order has while it is made: misses, a tree, a row -/
structure Ob (S : Nat → Prop) (w : World) (gb M : Nat) (ns : List Id) (E : Id → Id → Bool) (nb ob ub : Id → Nat) (tb mb : Nat) (X : World) (f : Id → Option Int) (m : Nat) (tv : Value) (tl : List Int) (lv : Value) (ll : List Int) : Prop where
  q : Gq S X gb (some M) ns E nb ob ub
  b : Below w.heap.size w X
  small : ∀ k, S k → k < w.heap.size
  at' : w.heap.size ≤ tb ∧ w.heap.size ≤ mb
  miss : Mi X mb m f
  tree : Tr w.heap.size X tb tv tl
  row : X.ownsRow w.heap.size 3 1 lv ll.length (ll.map kv)
  dis : ∀ b, lv.ownBlock = some b → tv.ownBlock ≠ some b
section
variable {S : Nat → Prop} {w : World} {gb M : Nat} {ns : List Id} {E : Id → Id → Bool} {nb ob ub : Id → Nat} {tb mb : Nat} {X : World} {f : Id → Option Int} {m : Nat} {tv : Value} {tl : List Int} {lv : Value} {ll : List Int}
theorem Ob.kept {Y : World} (h : Ob S w gb M ns E nb ob ub tb mb X f m tv tl lv ll) (b : Below w.heap.size w Y) (hs : X.heap.size ≤ Y.heap.size) (e : ∀ k, w.heap.size ≤ k → (k = tb ∨ k = mb ∨ tv.ownBlock = some k ∨ lv.ownBlock = some k) → Y.heap[k]? = X.heap[k]?) : Ob S w gb M ns E nb ob ub tb mb Y f m tv tl lv ll where
  q := h.q.kept hs fun k hk => (b.block k (h.small k hk)).trans (h.b.block k (h.small k hk)).symm
  b := b
  small := h.small
  at' := h.at'
  miss := h.miss.kept (e mb h.at'.2 (.inr (.inl rfl)))
  tree := h.tree.kept fun k hk => by
    rcases hk with rfl | hk
    · exact e _ h.at'.1 (.inl rfl)
    · exact e k (own_obj h.tree.own hk).1 (.inr (.inr (.inl hk)))
  row := own_kept h.row fun k hk => e k (own_obj h.row hk).1 (.inr (.inr (.inr hk)))
  dis := h.dis
theorem Ob.lt (h : Ob S w gb M ns E nb ob ub tb mb X f m tv tl lv ll) {k : Nat} (hk : k = tb ∨ k = mb ∨ tv.ownBlock = some k ∨ lv.ownBlock = some k) : k < X.heap.size := by
  rcases hk with rfl | rfl | hk | hk
  · exact (Array.getElem?_eq_some_iff.1 h.tree.box).1
  · exact h.miss.lt
  · exact (h.tree.own.lt k hk).2
  · exact (h.row.lt k hk).2
theorem Ob.below {Y : World} (h : Ob S w gb M ns E nb ob ub tb mb X f m tv tl lv ll) (b : Below X.heap.size X Y) : Ob S w gb M ns E nb ob ub tb mb Y f m tv tl lv ll :=
  h.kept (h.b.trans (b.mono h.b.size)) b.size fun k _ hk => b.block k (h.lt hk)
theorem Ob.but {Y : World} {r : Nat} (h : Ob S w gb M ns E nb ob ub tb mb X f m tv tl lv ll) (hr : ∃ a s e c, X.heap[r]? = some (.mapIter a s e c)) (hw : w.heap.size ≤ r) (g : X.grownBy Y (some r)) : Ob S w gb M ns E nb ob ub tb mb Y f m tv tl lv ll := by
  obtain ⟨a, s, e, c, hr⟩ := hr
  refine h.kept (h.b.grown g h.b.size (fun j hj => by cases hj; exact hw)) g.size fun k _ hk => g.block k (h.lt hk) fun e => ?_
  obtain rfl := Option.some.inj e
  rcases hk with rfl | rfl | hk | hk
  · rw [h.tree.box] at hr; cases hr
  · obtain ⟨es, cl, h2⟩ := h.miss.obj; rw [h2] at hr; cases hr
  · obtain ⟨_, cur, h2⟩ := own_obj h.tree.own hk; rw [h2] at hr; cases hr
  · obtain ⟨_, cur, h2⟩ := own_obj h.row hk; rw [h2] at hr; cases hr
theorem Ob.setMiss {Y : World} {f' : Id → Option Int} {m' : Nat} (h : Ob S w gb M ns E nb ob ub tb mb X f m tv tl lv ll) (g : X.grownBy Y (some mb)) (hm : Mi Y mb m' f') : Ob S w gb M ns E nb ob ub tb mb Y f' m' tv tl lv ll := by
  obtain ⟨es, cl, hmb⟩ := h.miss.obj
  have b := h.b.grown g h.b.size (fun j hj => by cases hj; exact h.at'.2)
  have k1 : ∀ k, (k = tb ∨ tv.ownBlock = some k ∨ lv.ownBlock = some k) → Y.heap[k]? = X.heap[k]? := fun k hk => by
    have hl : k < X.heap.size := h.lt (by rcases hk with hk | hk | hk; exact .inl hk; exact .inr (.inr (.inl hk)); exact .inr (.inr (.inr hk)))
    refine g.block k hl fun e => ?_
    obtain rfl := Option.some.inj e
    rcases hk with rfl | hk | hk
    · rw [h.tree.box] at hmb; cases hmb
    · obtain ⟨_, cur, h2⟩ := own_obj h.tree.own hk; rw [h2] at hmb; cases hmb
    · obtain ⟨_, cur, h2⟩ := own_obj h.row hk; rw [h2] at hmb; cases hmb
  exact ⟨h.q.kept g.size fun k hk => (b.block k (h.small k hk)).trans (h.b.block k (h.small k hk)).symm, b, h.small, h.at', hm, h.tree.kept fun k hk => k1 k (hk.imp_right .inl), own_kept h.row fun k hk => k1 k (.inr (.inr hk)), h.dis⟩
theorem Ob.setTree {Y : World} {tv' : Value} {tl' : List Int} (h : Ob S w gb M ns E nb ob ub tb mb X f m tv tl lv ll) (t : Tr w.heap.size Y tb tv' tl') (g : Fr (fun j => j = tb ∨ tv.ownBlock = some j) X Y) (hb : tv'.ownBlock = tv.ownBlock ∨ ∃ g, tv'.ownBlock = some g ∧ X.heap.size ≤ g) : Ob S w gb M ns E nb ob ub tb mb Y f m tv' tl' lv ll := by
  obtain ⟨es, cl, hmb⟩ := h.miss.obj
  have b : Below w.heap.size w Y := below_fr h.b g fun k hk => by
    rcases hk with rfl | hk
    · exact h.at'.1
    · exact (own_obj h.tree.own hk).1
  refine ⟨h.q.kept g.size fun k hk => (b.block k (h.small k hk)).trans (h.b.block k (h.small k hk)).symm, b, h.small, h.at', h.miss.kept (g.block mb h.miss.lt ?_), t, own_kept h.row fun k hk => g.block k (h.row.lt k hk).2 ?_, fun k hk e => ?_⟩
  · rintro (e | e)
    · rw [e, h.tree.box] at hmb; cases hmb
    · obtain ⟨_, cur, h2⟩ := own_obj h.tree.own e; rw [h2] at hmb; cases hmb
  · rintro (e | e)
    · obtain ⟨_, cur, h2⟩ := own_obj h.row hk
      rw [e, h.tree.box] at h2
      exact absurd (Obj.cells.inj (Option.some.inj h2)).2.1 (by decide)
    · exact h.dis k hk e
  · rcases hb with e2 | ⟨g2, e2, hg⟩
    · exact h.dis k hk (e2 ▸ e)
    · rw [e2] at e; cases e; have := (h.row.lt _ hk).2; omega
theorem Ob.setRow {Y Z : World} {lv' : Value} {ll' : List Int} (h : Ob S w gb M ns E nb ob ub tb mb X f m tv tl lv ll) (b1 : Below X.heap.size X Z) (hr : Y.ownsRow w.heap.size 3 1 lv' ll'.length (ll'.map kv)) (g : Z.grownBy Y lv.ownBlock) (hb : lv'.ownBlock = lv.ownBlock ∨ ∃ g, lv'.ownBlock = some g ∧ Z.heap.size ≤ g) : Ob S w gb M ns E nb ob ub tb mb Y f m tv tl lv' ll' := by
  have h1 := h.below b1
  obtain ⟨es, cl, hmb⟩ := h1.miss.obj
  have b := h1.b.grown g h1.b.size (fun j hj => (own_obj h1.row hj).1)
  have k1 : ∀ k, (k = tb ∨ k = mb ∨ tv.ownBlock = some k) → Y.heap[k]? = Z.heap[k]? := fun k hk => by
    have hl : k < Z.heap.size := h1.lt (by rcases hk with hk | hk | hk; exact .inl hk; exact .inr (.inl hk); exact .inr (.inr (.inl hk)))
    refine g.block k hl fun e => ?_
    obtain ⟨_, cur, h2⟩ := own_obj h1.row e.symm
    rcases hk with rfl | rfl | hk
    · rw [h1.tree.box] at h2
      exact absurd (Obj.cells.inj (Option.some.inj h2)).2.1 (by decide)
    · rw [hmb] at h2; cases h2
    · exact h1.dis k e.symm hk
  refine ⟨h1.q.kept g.size fun k hk => (b.block k (h.small k hk)).trans (h1.b.block k (h.small k hk)).symm, b, h.small, h.at', h1.miss.kept (k1 mb (.inr (.inl rfl))), h1.tree.kept fun k hk => k1 k (hk.imp_right .inr), hr, fun k hk e => ?_⟩
  rcases hb with e2 | ⟨g2, e2, hg⟩
  · exact h.dis k (e2 ▸ hk) e
  · rw [e2] at hk; cases hk; have := h1.lt (.inr (.inr (.inl e))); omega
end
/-! ## a chain -/
def ci (i : Nat) : Id := ((i : Int), false)
structure Ch (ns : List Id) (E : Id → Id → Bool) (k : Nat) : Prop where
  mem : ∀ x, x ∈ ns ↔ ∃ i, i < k ∧ x = ci i
  edge : ∀ x y, E x y = true ↔ ∃ i, i + 1 < k ∧ x = ci (i + 1) ∧ y = ci i
theorem ci_inj {i j : Nat} (h : ci i = ci j) : i = j := by unfold ci at h; simp at h; omega
section
variable {ns : List Id} {E : Id → Id → Bool} {k : Nat}
theorem Ch.on_card {w : World} {b n i : Nat} (c : Ch ns E k) (hi : i < k) (hok : ∀ x ∈ ns, wk x) (h : Mq w b n (sf fun y => E (ci i) y)) : n = if i = 0 then 0 else 1 := by
  by_cases e : i = 0
  · rw [if_pos e]
    refine h.card kindS (l := []) List.nodup_nil fun y => ?_
    rw [sf_some, c.edge]
    simp only [List.not_mem_nil, false_iff, not_and, not_exists]
    rintro _ j _ e2
    have := ci_inj e2; omega
  · rw [if_neg e]
    refine h.card kindS (l := [ci (i - 1)]) (by simp) fun y => ?_
    rw [sf_some, c.edge, List.mem_singleton]
    constructor
    · rintro rfl
      exact ⟨hok _ ((c.mem _).2 ⟨i - 1, by omega, rfl⟩), i - 1, by omega, by rw [show i - 1 + 1 = i by omega], rfl⟩
    · rintro ⟨_, j, _, e2, rfl⟩
      have := ci_inj e2
      rw [show i - 1 = j by omega]
theorem Ch.len (c : Ch ns E k) (hn : ns.Nodup) : ns.length = k := by
  have h1 : ((List.range k).map ci).Nodup := by
    rw [List.nodup_iff_pairwise_ne, List.pairwise_map]
    exact (List.nodup_iff_pairwise_ne.1 List.nodup_range).imp fun h e => h (ci_inj e)
  have a := Mv.len_sub ns ((List.range k).map ci) hn fun x hx => by
    obtain ⟨i, hi, rfl⟩ := (c.mem x).1 hx
    exact List.mem_map.2 ⟨i, List.mem_range.2 hi, rfl⟩
  have b := Mv.len_sub ((List.range k).map ci) ns h1 fun x hx => by
    obtain ⟨i, hi, rfl⟩ := List.mem_map.1 hx
    exact (c.mem _).2 ⟨i, List.mem_range.1 hi, rfl⟩
  simp at a b; omega
end
end Go.Proofs.Ytmlmacplkfnhkaa.DgA
