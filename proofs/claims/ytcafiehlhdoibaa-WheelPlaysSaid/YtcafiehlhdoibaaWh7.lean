
/- wheels: what a turn passes -/
import Derived.Test.YtcafiehlhdoibaaWh6
import Derived.Deep.MidRow
namespace Go.Proofs.Ytcafiehlhdoibaa.Wh
open Go.RowKit Go.Lib Go.Sort Go.Maps Hp Ht
set_option linter.unusedVariables false
set_option maxRecDepth 20000
theorem Ls.le {f g : K → Option Int} {l l' : List (K × Int)} (h : Ls g l') (hl : Ls f l) (hs : ∀ k t, g k = some t → f k = some t) : l'.length ≤ l.length :=
  len_sub l' l (nodup_of_keys h.1) fun p hp => (hl.2 p.1 p.2).2 (hs _ _ ((h.2 p.1 p.2).1 hp))
theorem Ls.part {f : K → Option Int} {l : List (K × Int)} (hl : Ls f l) (g : K → Option Int) (hs : ∀ k t, g k = some t → f k = some t) : ∃ l', Ls g l' ∧ l'.length ≤ l.length := by
  have h := hl.filter (fun x => decide (g x.1 = some x.2)) g fun k t => by
    simp only [decide_eq_true_eq]
    exact ⟨fun h => ⟨hs k t h, h⟩, fun h => h.2⟩
  exact ⟨_, h, h.le hl hs⟩
/-- what stands below a place -/
def dn (now : Int) (h : K → Option Int) (p : Nat) : K → Option Int := fun k => (h k).filter fun t => pc now t < p
theorem dn_some {now : Int} {h : K → Option Int} {p : Nat} {k : K} {t : Int} : dn now h p k = some t ↔ h k = some t ∧ pc now t < p := by
  unfold dn; simp [Option.filter_eq_some_iff]
theorem dn_zero (now : Int) (h : K → Option Int) : dn now h 0 = fun _ => none := ext_some fun k t => by rw [dn_some]; simp
theorem dn_step {now : Int} {h : K → Option Int} {s : Nat} {row es : List (K × Int)} (h1 : Ls (dn now h s) row) (h2 : Ls (gs now (frm now h s) s) es) : Ls (dn now h (s + 1)) (row ++ es) := by
  refine h1.join h2 (fun k t e => ?_) (fun k t => ?_)
  · cases e2 : gs now (frm now h s) s k with
    | none => rfl
    | some t2 =>
      rw [dn_some] at e
      rw [gs_some, frm_some] at e2
      rw [e.1] at e2
      have := Option.some.inj e2.1.1
      subst this
      omega
  · rw [dn_some, dn_some, gs_some, frm_some]
    constructor
    · rintro ⟨e1, e2⟩
      by_cases e3 : pc now t < s
      · exact .inl ⟨e1, e3⟩
      · exact .inr ⟨⟨e1, by omega⟩, by omega⟩
    · rintro (⟨e1, e2⟩ | ⟨⟨e1, e2⟩, e3⟩)
      · exact ⟨e1, by omega⟩
      · exact ⟨e1, by omega⟩
section
variable {S : Nat → Prop} {w : World} {wb ab : Nat} {sv : Nat → Option Nat} {now : Int} {most n : Nat} {f h : K → Option Int}
/-- the slots below s are passed -/
structure Ps (S : Nat → Prop) (w : World) (wb ab : Nat) (sv : Nat → Option Nat) (now : Int) (most n : Nat) (f h : K → Option Int) (s : Nat) (X : World) (v : Value) (row : List (K × Int)) : Prop where
  own : Own X w.heap.size v row
  row : Ls (dn now h s) row
  q : Wq S X wb ab sv now most n f (frm now h s)
  fr : Fr S w X
theorem Ps.start (q : Wq S w wb ab sv now most n f h) : Ps S w wb ab sv now most n f h 0 w (.slice none 0 0) [] :=
  ⟨⟨rfl, .inl ⟨rfl, rfl⟩⟩, by rw [dn_zero]; exact Ls.nil, by rw [frm_zero]; exact q, Fr.refl _ _⟩
theorem Ps.kept {s : Nat} {X Y : World} {v : Value} {row : List (K × Int)} (p : Ps S w wb ab sv now most n f h s X v row) (b : Below X.heap.size X Y) : Ps S w wb ab sv now most n f h s Y v row :=
  ⟨own_kept p.own fun k hk => b.block k (own_cell p.own hk).2.1, p.row, p.q.below b, p.fr.trans (Fr.of_below b) fun x hx => .inl hx⟩
theorem Ps.take {s : Nat} {X : World} {v : Value} {row : List (K × Int)} (hsh : ∀ k t, h k = some t → f k = some t) (hS : ∀ k, S k → k < w.heap.size) (p : Ps S w wb ab sv now most n f h s X v row) (hs : s < 449) (hn : n ≤ 400000) :
    Calls Try.prog 38 #[.map (sv s), v] X fun e X' => ∃ v' row', e = .returned v' ∧ Ps S w wb ab sv now most n f h (s + 1) X' v' row' := by
  obtain ⟨l, hl, hln⟩ := p.q.cnt
  have hsub : ∀ k t, gs now (frm now h s) s k = some t → f k = some t := fun k t e => p.q.sub k t (gs_some.1 e).1
  have hrow : row.length ≤ l.length := p.row.le hl fun k t e => hsh k t (dn_some.1 e).1
  refine (taken_any X (sv s) (gs now (frm now h s) s) (p.q.slot s hs) (fun k t e => gs_wk p.q e) (by obtain ⟨l', h1, h2⟩ := hl.part _ hsub; exact ⟨l', h1, by omega⟩) w.heap.size v row p.own p.fr.size
    (fun b hb => hS b (p.q.ownS s b hs hb)) (by omega)).mono ?_
  rintro e X' ⟨v', es, rfl, h1, h2, h3, h4⟩
  -- what the slots' maps and all else of the wheel are
  have hg : X.grownBy X' (sv s) ∨ True := .inr trivial
  have hot : ∀ k, S k → sv s ≠ some k → X'.heap[k]? = X.heap[k]? := fun k hk hne => h4.block k (p.q.size k hk) (fun e => by
    rcases e with e | e
    · exact hne e
    · have := hS k hk; omega)
  refine ⟨v', row ++ es, rfl, h2, dn_step p.row h1, ?_, p.fr.trans h4 fun x hx => ?_⟩
  · -- beside the blocks of the row the world is grown by the slot's map alone
    have q' : Wq S X' wb ab sv now most n f (frm now h (s + 1)) := by
      have hgs : ∀ i, i ≠ s → gs now (frm now h (s + 1)) i = gs now (frm now h s) i := fun i hi => by
        rw [gs_fr, gs_fr]
        by_cases e : s ≤ i
        · rw [if_pos e, if_pos (by omega)]
        · rw [if_neg e, if_neg (by omega)]
      have hgs0 : gs now (frm now h (s + 1)) s = fun _ => none := by rw [gs_fr, if_neg (by omega)]
      have q := p.q
      refine ⟨?_, ?_, fun i hi => ?_, q.dist, q.apart, q.ownW, q.ownA, q.ownS, fun k hk => Nat.lt_of_lt_of_le (q.size k hk) h4.size, q.okf, fun k t e => q.sub k t (by rw [frm_some] at e ⊢; exact ⟨e.1, by omega⟩), q.tick, q.cnt⟩
      · obtain ⟨cur, c1, c2⟩ := q.obj
        exact ⟨cur, (hot wb q.ownW fun e => q.sb_ne hs e rfl).trans c1, c2⟩
      · exact q.at'.kept (hot ab q.ownA fun e => q.apart s ab hs e rfl)
      · by_cases e : i = s
        · subst e; rw [hgs0]; exact h3
        · rw [hgs i e]
          exact (q.slot i hi).kept fun b hb => hot b (q.ownS i b hi hb) fun e2 => e (q.dist i s b hi hs hb e2)
    exact q'
  · rcases hx with hx | hx
    · exact .inl (p.q.ownS s x hs hx)
    · exact .inr hx
end
end Go.Proofs.Ytcafiehlhdoibaa.Wh
