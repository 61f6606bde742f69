
/- wheels: what a turn tells, and what goes down -/
import Derived.Test.YtcafiehlhdoibaaWh8
namespace Go.Proofs.Ytcafiehlhdoibaa.Wh
open Go.RowKit Go.Lib Go.Sort Go.Maps Hp Ht
set_option linter.unusedVariables false
set_option maxRecDepth 20000
/-- a wheel's blocks -/
def Bs (wb ab : Nat) (sv : Nat → Option Nat) (x : Nat) : Prop := x = wb ∨ x = ab ∨ ∃ s, s < 449 ∧ sv s = some x
section
variable {S : Nat → Prop} {w : World} {wb ab : Nat} {sv : Nat → Option Nat} {now : Int} {most n : Nat} {f h : K → Option Int}
theorem Wq.sub_own (q : Wq S w wb ab sv now most n f h) {x : Nat} (hx : Bs wb ab sv x) : S x := by
  rcases hx with rfl | rfl | ⟨s, hs, e⟩
  · exact q.ownW
  · exact q.ownA
  · exact q.ownS s x hs e
theorem Wq.min (q : Wq S w wb ab sv now most n f h) : Wq (Bs wb ab sv) w wb ab sv now most n f h :=
  { q with ownW := .inl rfl, ownA := .inr (.inl rfl), ownS := fun s b hs hb => .inr (.inr ⟨s, hs, hb⟩), size := fun k hk => q.size k (q.sub_own hk) }
theorem Wq.not_row (q : Wq S w wb ab sv now most n f h) {b : Nat} {cur : Array Value} (hb : w.heap[b]? = some (.cells cur 42 (0, 0))) : ¬ Bs wb ab sv b := by
  rintro (rfl | rfl | ⟨s, hs, e⟩)
  · obtain ⟨cur2, h1, _⟩ := q.obj
    rw [hb] at h1; cases h1
  · obtain ⟨es, c, h1⟩ := q.at'.at
    rw [hb] at h1; cases h1
  · obtain ⟨m, hm⟩ := q.slot_some hs e
    obtain ⟨es, c, h1⟩ := hm.at
    rw [hb] at h1; cases h1
/-- a turn on its way: j of what was passed are looked at -/
structure Tn (S : Nat → Prop) (wb ab : Nat) (to : Int) (most n : Nat) (f h1 : K → Option Int) (row : List (K × Int)) (W0 : World) (j : Nat) (X : World) (sv : Nat → Option Nat) (n' : Nat) (f' h' : K → Option Int) (tv : Value) (told : List (K × Int)) : Prop where
  q : Wq (Bs wb ab sv) X wb ab sv to most n' f' h'
  sub : ∀ x, Bs wb ab sv x → S x ∨ W0.heap.size ≤ x
  own : Own X W0.heap.size tv told
  tell : told = (row.take j).filter fun x => decide (x.2 ≤ to)
  hh : ∀ k t, h' k = some t ↔ h1 k = some t ∨ ((k, t) ∈ row.take j ∧ to < t)
  ff : ∀ k t, f' k = some t ↔ f k = some t ∧ ¬ ((k, t) ∈ row.take j ∧ t ≤ to)
  nn : n' + told.length = n
  fr : Fr S W0 X
variable {to : Int} {h1 : K → Option Int} {row : List (K × Int)} {W0 : World} {j : Nat} {X : World} {n' : Nat} {f' h' : K → Option Int} {tv : Value} {told : List (K × Int)}
theorem Tn.later (p : Tn S wb ab to most n f h1 row W0 j X sv n' f' h' tv told) {Y : World} (b : Below X.heap.size X Y) : Tn S wb ab to most n f h1 row W0 j Y sv n' f' h' tv told :=
  { p with q := p.q.below b, own := own_kept p.own fun k hk => b.block k (own_cell p.own hk).2.1, fr := p.fr.trans (Fr.of_below b) fun x hx => .inl hx }
theorem take_next {row : List (K × Int)} {j : Nat} (hj : j < row.length) : row.take (j + 1) = row.take j ++ [el row j] := by
  rw [List.take_add_one, el_get hj]; rfl
/-- what was passed: each once, none of what stays -/
structure Rw (f h1 : K → Option Int) (row : List (K × Int)) : Prop where
  nd : (row.map (·.1)).Nodup
  sub : ∀ k t, (k, t) ∈ row → f k = some t
  stay : ∀ k t, h1 k = some t → f k = some t
  apart : ∀ k t, (k, t) ∈ row → h1 k = none
theorem Rw.once (R : Rw f h1 row) {j : Nat} (hj : j < row.length) {t : Int} : ((el row j).1, t) ∉ row.take j := by
  intro hm
  have h2 := R.nd
  rw [← List.take_append_drop j row, List.map_append, List.nodup_append] at h2
  refine h2.2.2 (el row j).1 (List.mem_map.2 ⟨_, hm, rfl⟩) (el row j).1 (List.mem_map.2 ⟨el row j, ?_, rfl⟩) rfl
  rw [el_eq hj, List.mem_drop_iff_getElem]
  exact ⟨0, by simpa using hj, by simp⟩
theorem Tn.fresh (p : Tn S wb ab to most n f h1 row W0 j X sv n' f' h' tv told) (R : Rw f h1 row) (hj : j < row.length) : h' (el row j).1 = none := by
  cases e : h' (el row j).1 with
  | none => rfl
  | some t =>
    exfalso
    have hm : ((el row j).1, (el row j).2) ∈ row := el_mem hj
    rcases (p.hh _ _).1 e with e1 | ⟨e1, _⟩
    · rw [R.apart _ _ hm] at e1; cases e1
    · exact R.once hj e1
theorem Tn.there (p : Tn S wb ab to most n f h1 row W0 j X sv n' f' h' tv told) (R : Rw f h1 row) (hj : j < row.length) : f' (el row j).1 = some (el row j).2 :=
  (p.ff _ _).2 ⟨R.sub _ _ (el_mem hj), fun e => R.once hj e.1⟩
/-- one goes down -/
theorem Tn.put (p : Tn S wb ab to most n f h1 row W0 j X sv n' f' h' tv told) (R : Rw f h1 row) (hj : j < row.length) (ht : to < (el row j).2) {S'' : Nat → Prop} {sv'' : Nat → Option Nat} {Y : World}
    (q'' : Wq S'' Y wb ab sv'' to most n' f' (upd h' (el row j).1 (el row j).2)) (hs : ∀ x, S'' x → Bs wb ab sv x ∨ X.heap.size ≤ x) (fr : Fr (Bs wb ab sv) X Y) : Tn S wb ab to most n f h1 row W0 (j + 1) Y sv'' n' f' (upd h' (el row j).1 (el row j).2) tv told where
  q := q''.min
  sub x hx := by
    rcases hs x (q''.sub_own hx) with e | e
    · exact p.sub x e
    · exact .inr (Nat.le_trans p.fr.size e)
  own := own_kept p.own fun b hb => by
    obtain ⟨_, h2, cur, h3⟩ := own_cell p.own hb
    exact fr.block b h2 (p.q.not_row h3)
  tell := by rw [take_next hj, List.filter_append, ← p.tell]; simp; omega
  hh k t := by
    rw [upd_some, p.hh, take_next hj, List.mem_append, List.mem_singleton]
    constructor
    · rintro (⟨rfl, rfl⟩ | ⟨_, e | ⟨e, e2⟩⟩)
      · exact .inr ⟨.inr rfl, ht⟩
      · exact .inl e
      · exact .inr ⟨.inl e, e2⟩
    · rintro (e | ⟨e | e, e2⟩)
      · exact .inr ⟨fun e3 => (by have := R.apart (el row j).1 (el row j).2 (el_mem hj); rw [e3, this] at e; cases e), .inl e⟩
      · exact .inr ⟨fun e3 => R.once hj (e3 ▸ e), .inr ⟨e, e2⟩⟩
      · exact .inl ⟨by rw [← e], by rw [← e]⟩
  ff k t := by
    rw [p.ff, take_next hj, List.mem_append, List.mem_singleton]
    constructor
    · rintro ⟨e, e2⟩
      refine ⟨e, fun e3 => ?_⟩
      rcases e3.1 with e4 | e4
      · exact e2 ⟨e4, e3.2⟩
      · have := e3.2; rw [← e4] at ht; simp only at ht; omega
    · rintro ⟨e, e2⟩
      exact ⟨e, fun e3 => e2 ⟨.inl e3.1, e3.2⟩⟩
  nn := p.nn
  fr := p.fr.trans fr fun x hx => p.sub x hx
/-- one is told -/
theorem Tn.cut (p : Tn S wb ab to most n f h1 row W0 j X sv n' f' h' tv told) (R : Rw f h1 row) (hj : j < row.length) (ht : (el row j).2 ≤ to) {Y Z : World} {tv' : Value} (hm : Mq Y ab (n' - 1) (del f' (el row j).1)) (hg : X.grownBy Y (some ab))
    (hz : Own Z W0.heap.size tv' (told ++ [el row j])) (hgz : Y.grownBy Z tv.ownBlock) : Tn S wb ab to most n f h1 row W0 (j + 1) Z sv (n' - 1) (del f' (el row j).1) h' tv' (told ++ [el row j]) := by
  have hth := p.there R hj
  have hcnt : ∃ l, Ls (del f' (el row j).1) l ∧ l.length = n' - 1 ∧ 0 < n' := by
    obtain ⟨l, hl, hln⟩ := p.q.cnt
    have hc := hl.cut (el row j).1
    refine ⟨_, hc, ?_⟩
    have hp : Ls f' ((el row j) :: l.filter fun x => x.1 ≠ (el row j).1) := by
      refine ⟨?_, fun k t => ?_⟩
      · rw [List.map_cons, List.nodup_cons]
        refine ⟨fun e => ?_, hc.1⟩
        obtain ⟨y, hy, e2⟩ := List.mem_map.1 e
        have := (List.mem_filter.1 hy).2
        simp [e2] at this
      · rw [List.mem_cons, hc.2, del_some]
        constructor
        · rintro (e | ⟨_, e⟩)
          · rw [show k = (el row j).1 by rw [← e], show t = (el row j).2 by rw [← e]]; exact hth
          · exact e
        · intro e
          by_cases e2 : k = (el row j).1
          · subst e2
            rw [hth] at e
            cases e
            exact .inl rfl
          · exact .inr ⟨e2, e⟩
    have := (hl.same hp).length_eq
    simp only [List.length_cons] at this
    omega
  obtain ⟨lc, hc1, hc2, hn0⟩ := hcnt
  have hfresh := p.fresh R hj
  have q1 : Wq (Bs wb ab sv) Y wb ab sv to most (n' - 1) (del f' (el row j).1) h' := p.q.setAt hm hg (fun k t e => p.q.okf k t (del_some.1 e).2) (fun k t e => del_some.2 ⟨fun e2 => (by rw [e2, hfresh] at e; cases e), p.q.sub k t e⟩) ⟨lc, hc1, hc2⟩
  have hgz' : ∀ k, k < Y.heap.size → tv.ownBlock ≠ some k → Z.heap[k]? = Y.heap[k]? := fun k hk hn => hgz.block k hk (fun e => hn e.symm)
  have hnb : ∀ k, Bs wb ab sv k → tv.ownBlock ≠ some k := fun k hk e => by
    obtain ⟨_, _, cur, h3⟩ := own_cell p.own e
    exact p.q.not_row h3 hk
  refine ⟨q1.kept hgz.size fun k hk => hgz' k (q1.size k hk) (hnb k hk), p.sub, hz, ?_, fun k t => ?_, fun k t => ?_, ?_, ?_⟩
  · rw [take_next hj, List.filter_append, ← p.tell]; simp [ht]
  · rw [p.hh, take_next hj, List.mem_append, List.mem_singleton]
    constructor
    · rintro (e | ⟨e, e2⟩)
      · exact .inl e
      · exact .inr ⟨.inl e, e2⟩
    · rintro (e | ⟨e | e, e2⟩)
      · exact .inl e
      · exact .inr ⟨e, e2⟩
      · rw [← e] at ht; simp only at ht; omega
  · rw [del_some, p.ff, take_next hj, List.mem_append, List.mem_singleton]
    constructor
    · rintro ⟨e1, e2, e3⟩
      refine ⟨e2, fun e4 => ?_⟩
      rcases e4.1 with e5 | e5
      · exact e3 ⟨e5, e4.2⟩
      · exact e1 (by rw [← e5])
    · rintro ⟨e2, e3⟩
      refine ⟨fun e4 => ?_, e2, fun e4 => e3 ⟨.inl e4.1, e4.2⟩⟩
      have h5 := R.sub (el row j).1 (el row j).2 (el_mem hj)
      rw [e4, h5] at e2
      have h6 := Option.some.inj e2
      exact e3 ⟨.inr (Prod.ext e4 h6.symm), by omega⟩
  · have := p.nn; simp; omega
  · refine (p.fr.trans (Fr.grown hg (S := Bs wb ab sv) (.inl (.inr (.inl rfl)))) fun x hx => p.sub x hx).trans (Fr.grownN hgz (S := fun x => W0.heap.size ≤ x) fun b e => .inl (own_cell p.own e).1) fun x hx => .inr hx
end
end Go.Proofs.Ytcafiehlhdoibaa.Wh
