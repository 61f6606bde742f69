
/- dag: chains, and what stands on what in them -/
import Derived.Test.YtmlmacplkfnhkaaDgU
import Derived.Test.YtmlmacplkfnhkaaDgL
namespace Go.Proofs.Ytmlmacplkfnhkaa.DgA
open Go.RowKit Go.Lib Hp Mv Dg Ht
set_option linter.unusedVariables false
set_option maxRecDepth 20000
/-- the row ahead -/
def ah (j : Nat) : List Int := if j = 0 then [] else [((j - 1 : Nat) : Int)]
theorem Ch.nil : Ch [] (fun _ _ => false) 0 := ⟨fun x => by simp, fun x y => by simp⟩
theorem Ch.snoc {ns : List Id} {E : Id → Id → Bool} {j : Nat} (c : Ch ns E j) : Ch (ns ++ [((j : Int), false)]) (addL E ((j : Int), false) (ah j)) (j + 1) where
  mem x := by
    rw [List.mem_append, List.mem_singleton, c.mem]
    constructor
    · rintro (⟨i, hi, rfl⟩ | rfl)
      · exact ⟨i, by omega, rfl⟩
      · exact ⟨j, by omega, rfl⟩
    · rintro ⟨i, hi, rfl⟩
      by_cases e : i = j
      · subst e; exact .inr rfl
      · exact .inl ⟨i, by omega, rfl⟩
  edge x y := by
    rw [addL_iff, c.edge]
    constructor
    · rintro (⟨i, hi, e1, e2⟩ | ⟨rfl, k, hk, rfl⟩)
      · exact ⟨i, by omega, e1, e2⟩
      · unfold ah at hk
        by_cases e : j = 0
        · rw [if_pos e] at hk; simp at hk
        · rw [if_neg e, List.mem_singleton] at hk
          subst hk
          exact ⟨j - 1, by omega, by rw [show j - 1 + 1 = j by omega]; rfl, rfl⟩
    · rintro ⟨i, hi, rfl, rfl⟩
      by_cases e : i + 1 = j
      · right
        refine ⟨by subst e; rfl, (i : Int), ?_, rfl⟩
        unfold ah
        rw [if_neg (by omega), ← e]; simp
      · exact .inl ⟨i, by omega, rfl, rfl⟩
section
variable {ns : List Id} {E : Id → Id → Bool} {k : Nat}
theorem Ch.re_lt (c : Ch ns E k) {b : Nat} {z : Id} (h : Re E (ci b) z) : ∃ a, a < b ∧ z = ci a := by
  induction h with
  | one e =>
    obtain ⟨i, hi, e1, e2⟩ := (c.edge _ _).1 e
    have := ci_inj e1
    exact ⟨i, by omega, e2⟩
  | more _ e ih =>
    obtain ⟨a, ha, rfl⟩ := ih
    obtain ⟨i, hi, e1, e2⟩ := (c.edge _ _).1 e
    have := ci_inj e1
    exact ⟨i, by omega, e2⟩
theorem Ch.re (c : Ch ns E k) {a : Nat} : ∀ d : Nat, a + d + 1 < k → Re E (ci (a + d + 1)) (ci a)
  | 0, h => .one ((c.edge _ _).2 ⟨a, h, rfl, rfl⟩)
  | d + 1, h => .head ((c.edge _ _).2 ⟨a + d + 1, h, rfl, rfl⟩) (c.re d (by omega))
/-- who stands on whom, and perhaps one more link, upward -/
structure Up (k : Nat) (E E' : Id → Id → Bool) : Prop where
  sub : ∀ x y, E x y = true → E' x y = true
  up : ∀ x y, E' x y = true → ∃ i j, j < i ∧ i < k ∧ x = ci i ∧ y = ci j
theorem Ch.self (c : Ch ns E k) : Up k E E := ⟨fun _ _ h => h, fun x y h => by
  obtain ⟨i, hi, e1, e2⟩ := (c.edge _ _).1 h
  exact ⟨i + 1, i, by omega, hi, e1, e2⟩⟩
theorem Ch.more (c : Ch ns E k) {x y : Nat} (hx : x < k) (hy : y < x) : Up k E (addE E (ci x) (ci y)) := ⟨fun _ _ h => addE_iff.2 (.inl h), fun a b h => by
  rcases addE_iff.1 h with h | ⟨rfl, rfl⟩
  · exact c.self.up a b h
  · exact ⟨x, y, hy, hx, rfl, rfl⟩⟩
def tops (k : Nat) : List Id := (List.range (k - 1)).map fun i => ci (i + 1)
theorem tops_nodup (k : Nat) : (tops k).Nodup := by
  unfold tops
  rw [List.nodup_iff_pairwise_ne, List.pairwise_map]
  exact (List.nodup_iff_pairwise_ne.1 List.nodup_range).imp fun h e => h (by have := ci_inj e; omega)
theorem tops_len (k : Nat) : (tops k).length = k - 1 := by unfold tops; simp
theorem Ch.all (c : Ch ns E k) {E' : Id → Id → Bool} (u : Up k E E') (z : Id) : z ∈ tops k ↔ Re (fun a b => E' b a) (ci 0) z := by
  constructor
  · intro h
    unfold tops at h
    obtain ⟨i, hi, rfl⟩ := List.mem_map.1 h
    rw [List.mem_range] at hi
    have h0 : ∀ i, i + 1 < k → Re (fun a b => E' b a) (ci 0) (ci (i + 1)) := by
      intro i
      induction i with
      | zero => intro h; exact .one (u.sub _ _ ((c.edge _ _).2 ⟨0, h, rfl, rfl⟩))
      | succ i ih => intro h; exact .more (ih (by omega)) (u.sub _ _ ((c.edge _ _).2 ⟨i + 1, h, rfl, rfl⟩))
    exact h0 i (by omega)
  · intro h
    have h0 : ∃ i, 0 < i ∧ i < k ∧ z = ci i := by
      induction h with
      | one e =>
        obtain ⟨i, j, h1, h2, e1, e2⟩ := u.up _ _ e
        exact ⟨i, by omega, h2, e1⟩
      | more _ e ih =>
        obtain ⟨i, j, h1, h2, e1, e2⟩ := u.up _ _ e
        exact ⟨i, by omega, h2, e1⟩
    obtain ⟨i, h1, h2, rfl⟩ := h0
    unfold tops
    exact List.mem_map.2 ⟨i - 1, List.mem_range.2 (by omega), by rw [show i - 1 + 1 = i by omega]⟩
/-- what Link should answer -/
def want (x y : Nat) : Int := if x ≤ y then 9 else if x = y + 1 then 8 else 0
theorem Ch.link (c : Ch ns E k) {x y : Nat} (hx : x < k) (hy : y < k) {S : Nat → Prop} {w w' : World} {gb : Nat} {mv : Option Nat} {nb ob ub : Id → Nat} {n : Int} (h : Linked S w w' gb mv ns E nb ob ub (ci x) (ci y) n) :
    n = want x y ∧ ∃ E', Gq S w' gb mv ns E' nb ob ub ∧ Fr S w w' ∧ Up k E E' := by
  obtain ⟨E', q, f, h⟩ := h
  have hR : (ci x = ci y ∨ Re E (ci y) (ci x)) ↔ x ≤ y := by
    constructor
    · rintro (e | e)
      · have := ci_inj e; omega
      · obtain ⟨a, ha, e2⟩ := c.re_lt e
        have := ci_inj e2; omega
    · intro h
      by_cases e : x = y
      · exact .inl (by rw [e])
      · have := c.re (a := x) (y - x - 1) (by omega)
        rw [show x + (y - x - 1) + 1 = y by omega] at this
        exact .inr this
  have hE : E (ci x) (ci y) = true ↔ x = y + 1 := by
    rw [c.edge]
    constructor
    · rintro ⟨i, hi, e1, e2⟩
      have := ci_inj e1
      have := ci_inj e2
      omega
    · rintro rfl; exact ⟨y, hx, rfl, rfl⟩
  rw [hR] at h
  unfold want
  rcases h with ⟨rfl, rfl, h1⟩ | ⟨rfl, rfl, h1, h2⟩ | ⟨rfl, rfl, h1, h2⟩
  · rw [if_pos h1]; exact ⟨rfl, E', q, f, c.self⟩
  · rw [if_neg h1, if_pos (hE.1 h2)]; exact ⟨rfl, E', q, f, c.self⟩
  · have h3 : ¬ x = y + 1 := fun e => by rw [hE.2 e] at h2; cases h2
    rw [if_neg h1, if_neg h3]; exact ⟨rfl, _, q, f, c.more hx (by omega)⟩
end
/-- a graph of the call's own -/
structure Lv (w : World) (gb : Nat) (S : Nat → Prop) (X : World) (ns : List Id) (E : Id → Id → Bool) : Prop where
  b : Below w.heap.size w X
  own : ∀ k, S k → w.heap.size ≤ k
  q : Gd S X gb ns E
theorem Lv.step {w X Y : World} {gb : Nat} {S S' : Nat → Prop} {ns ns' : List Id} {E E' : Id → Id → Bool} (h : Lv w gb S X ns E) (q : Gd S' Y gb ns' E') (f : Fr S X Y) (n : ∀ k, S' k → S k ∨ X.heap.size ≤ k) : Lv w gb S' Y ns' E' :=
  ⟨below_fr h.b f h.own, fun k hk => (n k hk).elim (h.own k) (fun e => Nat.le_trans h.b.size e), q⟩
theorem Lv.below {w X Y : World} {gb : Nat} {S : Nat → Prop} {ns : List Id} {E : Id → Id → Bool} (h : Lv w gb S X ns E) (b : Below X.heap.size X Y) : Lv w gb S Y ns E :=
  ⟨h.b.trans (b.mono h.b.size), h.own, by obtain ⟨mv, nb, ob, ub, q⟩ := h.q; exact ⟨mv, nb, ob, ub, q.below b (Nat.le_refl _)⟩⟩
theorem ks_one (S : Nat → Prop) (w : World) (k : Int) (hs : ∀ j, S j → j < w.heap.size) : Ks S (w.alloc (.cells #[kv k] 3)) (.slice (some ⟨w.heap.size, 0, none⟩) 1 1) [k] := by
  refine .inr ⟨w.heap.size, 1, rfl, fun e => by have := hs _ e; omega, by simp, fun i k' hk => ?_⟩
  match i, hk with
  | 0, hk =>
    simp at hk
    rw [← hk]
    exact (cell_of_row _ _ 0 _ _ _ (MapKept.heap_alloc w (.cells #[kv k] 3)).1).trans rfl
  | i + 1, hk => simp at hk
/-- the next one of a chain -/
theorem Lv.first {w X : World} {gb : Nat} {S : Nat → Prop} {ns : List Id} {E : Id → Id → Bool} (h : Lv w gb S X ns E) (c : Ch ns E 0) :
    Calls Try.prog 6 #[.pointer (some ⟨gb, 0, none⟩), kv ((0 : Nat) : Int), .slice none 0 0] X fun e w' => e = .returned (.int .i64 0) ∧ ∃ S' ns' E', Lv w gb S' w' ns' E' ∧ Ch ns' E' 1 := by
  obtain ⟨mv, nb, ob, ub, q⟩ := h.q
  have hns : ns = [] := List.eq_nil_iff_forall_not_mem.2 fun x hx => by obtain ⟨i, hi, _⟩ := (c.mem x).1 hx; omega
  refine (add_any q ((0 : Nat) : Int) (by unfold okK; omega) (by rw [hns]; simp) (.slice none 0 0) [] (.inl ⟨rfl, rfl⟩) (by simp) (by simp) (by rw [hns]; simp) (by simp)).mono ?_
  rintro e w' ⟨rfl, S', g, f, n⟩
  exact ⟨rfl, S', _, _, h.step g f n, c.snoc⟩
theorem Lv.next {w X : World} {gb j : Nat} {S : Nat → Prop} {ns : List Id} {E : Id → Id → Bool} (h : Lv w gb S X ns E) (c : Ch ns E j) (hj : 1 ≤ j) (hj2 : j ≤ 800000) :
    Calls Try.prog 6 #[.pointer (some ⟨gb, 0, none⟩), kv (j : Int), .slice (some ⟨X.heap.size, 0, none⟩) 1 1] (X.alloc (.cells #[kv ((j - 1 : Nat) : Int)] 3)) fun e w' => e = .returned (.int .i64 0) ∧ ∃ S' ns' E', Lv w gb S' w' ns' E' ∧ Ch ns' E' (j + 1) := by
  have h3 := h.below (below_new X (.cells #[kv ((j - 1 : Nat) : Int)] 3))
  obtain ⟨mv, nb, ob, ub, q⟩ := h.q
  have q2 := q.below (below_new X (.cells #[kv ((j - 1 : Nat) : Int)] 3)) (Nat.le_refl _)
  have hlen := c.len q.nd
  refine (add_any q2 (j : Int) (by unfold okK; omega) (fun e => by obtain ⟨i, hi, e2⟩ := (c.mem _).1 e; have := ci_inj (i := j) e2; omega) _ [((j - 1 : Nat) : Int)] (ks_one S X _ q.size) (fun o ho => by rw [List.mem_singleton] at ho; rw [ho]; unfold okK; omega)
    (fun o ho => by rw [List.mem_singleton] at ho; rw [ho]; exact (c.mem _).2 ⟨j - 1, by omega, rfl⟩) (by omega) (by simp)).mono ?_
  rintro e w' ⟨rfl, S', g, f, n⟩
  have hs := c.snoc
  unfold ah at hs
  rw [if_neg (by omega)] at hs
  exact ⟨rfl, S', _, _, h3.step g f n, hs⟩
end Go.Proofs.Ytmlmacplkfnhkaa.DgA
