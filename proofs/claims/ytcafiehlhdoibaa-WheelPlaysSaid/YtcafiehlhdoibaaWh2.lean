
/- wheels: a wheel in memory -/
import Derived.Test.YtcafiehlhdoibaaWh1
namespace Go.Proofs.Ytcafiehlhdoibaa.Wh
open Go.RowKit Go.Lib Go.Sort Go.Maps Go.ChangeMaps Go.MapKept Hp
set_option linter.unusedVariables false
set_option linter.unusedSectionVars false

/-- a wheel at block wb: f are its timers' deadlines, h those that stand in a slot; all blocks of S its own -/
structure Wq (S : Nat → Prop) (w : World) (wb ab : Nat) (sv : Nat → Option Nat) (now : Int) (most n : Nat) (f h : K → Option Int) : Prop where
  obj : ∃ cur, w.heap[wb]? = some (.cells cur 67 (0, 0)) ∧ cur.size = 452 ∧ cur[0]? = some (.int .i64 now) ∧ cur[1]? = some (.int .i64 ((most : Nat) : Int)) ∧ cur[2]? = some (.map (some ab)) ∧ ∀ s, s < 449 → cur[3 + s]? = some (.map (sv s))
  at' : Mq w ab n f
  slot : ∀ s, s < 449 → Sl w (sv s) (gs now h s)
  dist : ∀ s s' b, s < 449 → s' < 449 → sv s = some b → sv s' = some b → s = s'
  apart : ∀ s b, s < 449 → sv s = some b → b ≠ ab
  ownW : S wb
  ownA : S ab
  ownS : ∀ s b, s < 449 → sv s = some b → S b
  size : ∀ k, S k → k < w.heap.size
  okf : ∀ k t, f k = some t → wk k ∧ Tk t
  sub : ∀ k t, h k = some t → f k = some t
  tick : Tk now
  cnt : ∃ l, Ls f l ∧ l.length = n
section
variable {S : Nat → Prop} {w : World} {wb ab : Nat} {sv : Nat → Option Nat} {now : Int} {most n : Nat} {f h : K → Option Int}
theorem Wq.kept {Y : World} (q : Wq S w wb ab sv now most n f h) (hs : w.heap.size ≤ Y.heap.size) (e : ∀ k, S k → Y.heap[k]? = w.heap[k]?) : Wq S Y wb ab sv now most n f h where
  obj := by obtain ⟨cur, h1, h2⟩ := q.obj; exact ⟨cur, (e wb q.ownW).trans h1, h2⟩
  at' := q.at'.kept (e ab q.ownA)
  slot s hs := (q.slot s hs).kept fun b hb => e b (q.ownS s b hs hb)
  dist := q.dist
  apart := q.apart
  ownW := q.ownW
  ownA := q.ownA
  ownS := q.ownS
  size k hk := Nat.lt_of_lt_of_le (q.size k hk) hs
  okf := q.okf
  sub := q.sub
  tick := q.tick
  cnt := q.cnt
theorem Wq.fr {S' : Nat → Prop} {Y : World} (q : Wq S w wb ab sv now most n f h) (e : Fr S' w Y) (hd : ∀ k, S k → ¬ S' k) : Wq S Y wb ab sv now most n f h :=
  q.kept e.size fun k hk => e.block k (q.size k hk) (hd k hk)
theorem Wq.below {Y : World} (q : Wq S w wb ab sv now most n f h) (e : Below w.heap.size w Y) : Wq S Y wb ab sv now most n f h :=
  q.kept e.size fun k hk => e.block k (q.size k hk)
theorem Wq.cell (q : Wq S w wb ab sv now most n f h) : w.cell? ⟨wb, 0, none⟩ = some (.int .i64 now) ∧ w.cell? ⟨wb, 1, none⟩ = some (.int .i64 ((most : Nat) : Int)) ∧ w.cell? ⟨wb, 2, none⟩ = some (.map (some ab)) ∧ ∀ s, s < 449 → w.cell? ⟨wb, 3 + s, none⟩ = some (.map (sv s)) := by
  obtain ⟨cur, h1, h2, h3, h4, h5, h6⟩ := q.obj
  exact ⟨(cell_of_row w wb 0 _ _ _ h1).trans h3, (cell_of_row w wb 1 _ _ _ h1).trans h4, (cell_of_row w wb 2 _ _ _ h1).trans h5, fun s hs => (cell_of_row w wb (3 + s) _ _ _ h1).trans (h6 s hs)⟩
theorem Wq.frozen (q : Wq S w wb ab sv now most n f h) (j : Nat) : w.frozen? ⟨wb, j, none⟩ = false := by
  obtain ⟨cur, h1, _⟩ := q.obj
  simp [World.frozen?, h1]
theorem Wq.wb_ne_map (q : Wq S w wb ab sv now most n f h) {b m : Nat} {g : K → Option Int} (hm : Mq w b m g) : b ≠ wb := by
  rintro rfl
  obtain ⟨cur, h1, _⟩ := q.obj
  obtain ⟨es, clock, h2⟩ := hm.at
  rw [h1] at h2; cases h2
theorem Wq.ab_ne (q : Wq S w wb ab sv now most n f h) : ab ≠ wb := q.wb_ne_map q.at'
theorem Wq.slot_some (q : Wq S w wb ab sv now most n f h) {s b : Nat} (hs : s < 449) (hb : sv s = some b) : ∃ m, Mq w b m (gs now h s) := by
  have := q.slot s hs
  rw [hb] at this; exact this
theorem Wq.sb_ne (q : Wq S w wb ab sv now most n f h) {s b : Nat} (hs : s < 449) (hb : sv s = some b) : b ≠ wb := by
  obtain ⟨m, hm⟩ := q.slot_some hs hb
  exact q.wb_ne_map hm
theorem Wq.okh (q : Wq S w wb ab sv now most n f h) {k : K} {t : Int} (e : h k = some t) : wk k ∧ Tk t := q.okf k t (q.sub k t e)
theorem Wq.lt_pc (q : Wq S w wb ab sv now most n f h) {t : Int} (ht : Tk t) : pc now t < 449 := pc_lt q.tick ht
theorem gs_wk (q : Wq S w wb ab sv now most n f h) {s : Nat} {k : K} {t : Int} (e : gs now h s k = some t) : wk k := (q.okh (gs_some.1 e).1).1
/-- the map at turns into another one -/
theorem Wq.setAt {Y : World} {n' : Nat} {f' : K → Option Int} (q : Wq S w wb ab sv now most n f h) (hm : Mq Y ab n' f') (hg : w.grownBy Y (some ab)) (ok : ∀ k t, f' k = some t → wk k ∧ Tk t) (sb : ∀ k t, h k = some t → f' k = some t) (hc : ∃ l, Ls f' l ∧ l.length = n') : Wq S Y wb ab sv now most n' f' h where
  obj := by obtain ⟨cur, h1, h2⟩ := q.obj; exact ⟨cur, (hg.block wb (q.size wb q.ownW) (fun e => q.ab_ne (Option.some.inj e).symm)).trans h1, h2⟩
  at' := hm
  slot s hs := (q.slot s hs).kept fun b hb => hg.block b (q.size b (q.ownS s b hs hb)) (fun e => q.apart s b hs hb (Option.some.inj e))
  dist := q.dist
  apart := q.apart
  ownW := q.ownW
  ownA := q.ownA
  ownS := q.ownS
  size k hk := Nat.lt_of_lt_of_le (q.size k hk) hg.size
  okf := ok
  sub := sb
  tick := q.tick
  cnt := hc
/-- a slot's map turns into another one -/
theorem Wq.setSlot {Y : World} {s b m : Nat} {h' : K → Option Int} (q : Wq S w wb ab sv now most n f h) (hs : s < 449) (hb : sv s = some b) (hm : Mq Y b m (gs now h' s)) (hg : w.grownBy Y (some b)) (oth : ∀ s', s' < 449 → s' ≠ s → gs now h' s' = gs now h s')
    (sb : ∀ k t, h' k = some t → f k = some t) : Wq S Y wb ab sv now most n f h' where
  obj := by obtain ⟨cur, h1, h2⟩ := q.obj; exact ⟨cur, (hg.block wb (q.size wb q.ownW) (fun e => q.sb_ne hs hb (Option.some.inj e).symm)).trans h1, h2⟩
  at' := q.at'.kept (hg.block ab (q.size ab q.ownA) (fun e => q.apart s b hs hb (Option.some.inj e).symm))
  slot s' hs' := by
    by_cases e : s' = s
    · subst e; rw [hb]; exact ⟨m, hm⟩
    · rw [oth s' hs' e]
      exact (q.slot s' hs').kept fun b' hb' => hg.block b' (q.size b' (q.ownS s' b' hs' hb')) (fun e2 => e (q.dist s' s b hs' hs (by rw [hb', Option.some.inj e2]) hb))
  dist := q.dist
  apart := q.apart
  ownW := q.ownW
  ownA := q.ownA
  ownS := q.ownS
  size k hk := Nat.lt_of_lt_of_le (q.size k hk) hg.size
  okf := q.okf
  sub := sb
  tick := q.tick
  cnt := q.cnt
/-- a slot that had no map gets an empty one -/
theorem Wq.make (q : Wq S w wb ab sv now most n f h) {s : Nat} (hs : s < 449) (hn : sv s = none) {Y : World} (hY : Y = (w.setCell ⟨wb, 3 + s, none⟩ (.map (some w.heap.size))).alloc (.map #[] 0)) :
    Wq (fun x => S x ∨ x = w.heap.size) Y wb ab (fun i => if i = s then some w.heap.size else sv i) now most n f h ∧ Fr S w Y := by
  obtain ⟨cur, h1, h2, h3, h4, h5, h6⟩ := q.obj
  have zw := q.size wb q.ownW
  have zZ : (w.setCell ⟨wb, 3 + s, none⟩ (.map (some w.heap.size))).heap.size = w.heap.size := by simp
  have a1 : ∀ k, k < w.heap.size → Y.heap[k]? = (w.setCell ⟨wb, 3 + s, none⟩ (.map (some w.heap.size))).heap[k]? := fun k hk => by rw [hY]; exact (MapKept.heap_alloc _ _).2 k (by rw [zZ]; exact hk)
  have o1 : Y.heap[wb]? = some (.cells (cur.set! (3 + s) (.map (some w.heap.size))) 67 (0, 0)) := by rw [a1 wb zw, Lib.heap_setCell_same h1]; simp
  have oo : ∀ k, k < w.heap.size → k ≠ wb → Y.heap[k]? = w.heap[k]? := fun k hk hne => (a1 k hk).trans (heap_setCell_other _ _ _ _ hne)
  have zY : Y.heap.size = w.heap.size + 1 := by rw [hY]; simp
  have on : Y.heap[w.heap.size]? = some (.map #[] 0) := by
    have := (MapKept.heap_alloc (w.setCell ⟨wb, 3 + s, none⟩ (.map (some w.heap.size))) (.map #[] 0)).1
    rw [zZ] at this
    rw [hY]; exact this
  have hz : ∀ i b, i < 449 → sv i = some b → b < w.heap.size := fun i b hi hb => q.size b (q.ownS i b hi hb)
  have hgs : gs now h s = fun _ => none := by
    have := q.slot s hs
    rw [hn] at this
    exact funext this
  refine ⟨⟨⟨_, o1, by simpa using h2, ?_, ?_, ?_, fun i hi => ?_⟩, q.at'.kept (oo ab (q.size ab q.ownA) q.ab_ne), fun i hi => ?_, fun i i' b hi hi' e e' => ?_, fun i b hi e => ?_, .inl q.ownW, .inl q.ownA, fun i b hi e => ?_, fun k hk => ?_, q.okf, q.sub, q.tick, q.cnt⟩, ?_⟩
  · simp only [Array.set!_eq_setIfInBounds]; rw [Array.getElem?_setIfInBounds_ne (by omega)]; exact h3
  · simp only [Array.set!_eq_setIfInBounds]; rw [Array.getElem?_setIfInBounds_ne (by omega)]; exact h4
  · simp only [Array.set!_eq_setIfInBounds]; rw [Array.getElem?_setIfInBounds_ne (by omega)]; exact h5
  · simp only [Array.set!_eq_setIfInBounds]
    by_cases e : i = s
    · subst e; rw [if_pos rfl, Array.getElem?_setIfInBounds_self_of_lt (by omega)]
    · rw [if_neg e, Array.getElem?_setIfInBounds_ne (by omega)]; exact h6 i hi
  · by_cases e : i = s
    · subst e
      rw [if_pos rfl, hgs]
      exact ⟨0, .map [], ⟨#[], 0, on, ⟨Nat.zero_le _, MapKept.stamped_empty 0, fun x hx => by simp at hx⟩, Nat.le_refl _, rfl⟩, rfl, fun _ _ _ => rfl⟩
    · rw [if_neg e]
      exact (q.slot i hi).kept fun b hb => oo b (hz i b hi hb) (q.sb_ne hi hb)
  · by_cases e1 : i = s <;> by_cases e2 : i' = s
    · rw [e1, e2]
    · rw [if_pos e1] at e; rw [if_neg e2] at e'
      have := hz i' b hi' e'; have := Option.some.inj e; omega
    · rw [if_neg e1] at e; rw [if_pos e2] at e'
      have := hz i b hi e; have := Option.some.inj e'; omega
    · rw [if_neg e1] at e; rw [if_neg e2] at e'
      exact q.dist i i' b hi hi' e e'
  · by_cases e1 : i = s
    · rw [if_pos e1] at e
      have := Option.some.inj e; have := q.size ab q.ownA; omega
    · rw [if_neg e1] at e; exact q.apart i b hi e
  · by_cases e1 : i = s
    · rw [if_pos e1] at e; exact .inr (Option.some.inj e).symm
    · rw [if_neg e1] at e; exact .inl (q.ownS i b hi e)
  · rcases hk with hk | hk
    · have := q.size k hk; omega
    · omega
  · exact ⟨by rw [hY]; rfl, by rw [hY]; rfl, by rw [hY]; rfl, by omega, fun k hk hn => oo k hk (fun e => hn (by rw [e]; exact q.ownW))⟩
/-- up to where it was turned -/
theorem Wq.setNow (q : Wq S w wb ab sv now most n f h) {to : Int} (ht : Tk to) (hp : ∀ k t, h k = some t → pc to t = pc now t) {Y : World} (hY : Y = w.setCell ⟨wb, 0, none⟩ (.int .i64 to)) :
    Wq S Y wb ab sv to most n f h ∧ Fr S w Y := by
  obtain ⟨cur, h1, h2, h3, h4, h5, h6⟩ := q.obj
  have o1 : Y.heap[wb]? = some (.cells (cur.set! 0 (.int .i64 to)) 67 (0, 0)) := by rw [hY, Lib.heap_setCell_same h1]; simp
  have ot : ∀ k, k ≠ wb → Y.heap[k]? = w.heap[k]? := fun k hk => by rw [hY]; exact heap_setCell_other _ _ _ _ hk
  have zY : Y.heap.size = w.heap.size := by rw [hY]; simp
  have hgs : ∀ s, gs to h s = gs now h s := fun s => ext_some fun k t => by
    rw [gs_some, gs_some]
    constructor
    · rintro ⟨e1, e2⟩; exact ⟨e1, by rw [← hp k t e1]; exact e2⟩
    · rintro ⟨e1, e2⟩; exact ⟨e1, by rw [hp k t e1]; exact e2⟩
  refine ⟨⟨⟨_, o1, by simpa using h2, ?_, ?_, ?_, fun i hi => ?_⟩, q.at'.kept (ot ab q.ab_ne), fun i hi => ?_, q.dist, q.apart, q.ownW, q.ownA, q.ownS, fun k hk => by rw [zY]; exact q.size k hk, q.okf, q.sub, ht, q.cnt⟩, ⟨by rw [hY]; rfl, by rw [hY]; rfl, by rw [hY]; rfl, by omega, fun k hk hn => ot k (fun e => hn (by rw [e]; exact q.ownW))⟩⟩
  · simp only [Array.set!_eq_setIfInBounds]; rw [Array.getElem?_setIfInBounds_self_of_lt (by omega)]
  · simp only [Array.set!_eq_setIfInBounds]; rw [Array.getElem?_setIfInBounds_ne (by omega)]; exact h4
  · simp only [Array.set!_eq_setIfInBounds]; rw [Array.getElem?_setIfInBounds_ne (by omega)]; exact h5
  · simp only [Array.set!_eq_setIfInBounds]; rw [Array.getElem?_setIfInBounds_ne (by omega)]; exact h6 i hi
  · rw [hgs]
    exact (q.slot i hi).kept fun b hb => ot b (q.sb_ne hi hb)
/-- what is in a slot with one more -/
theorem gs_put {k : K} {t : Int} (hk : h k = none) (s : Nat) : gs now (upd h k t) s = if s = pc now t then upd (gs now h s) k t else gs now h s := by
  refine ext_some fun k' t' => ?_
  split
  · rename_i e
    rw [gs_some, upd_some, upd_some, gs_some]
    constructor
    · rintro ⟨⟨h1, h2⟩ | ⟨h1, h2⟩, h3⟩
      · exact .inl ⟨h1, h2⟩
      · exact .inr ⟨h1, h2, h3⟩
    · rintro (⟨h1, h2⟩ | ⟨h1, h2, h3⟩)
      · exact ⟨.inl ⟨h1, h2⟩, by rw [← h2, e]⟩
      · exact ⟨.inr ⟨h1, h2⟩, h3⟩
  · rename_i e
    rw [gs_some, upd_some, gs_some]
    constructor
    · rintro ⟨⟨h1, h2⟩ | ⟨h1, h2⟩, h3⟩
      · exact absurd (by rw [← h3, h2]) e
      · exact ⟨h2, h3⟩
    · rintro ⟨h2, h3⟩
      exact ⟨.inr ⟨fun e2 => (by rw [e2, hk] at h2; cases h2), h2⟩, h3⟩
theorem gs_del {k : K} {t : Int} (hk : h k = some t) (s : Nat) : gs now (del h k) s = if s = pc now t then del (gs now h s) k else gs now h s := by
  refine ext_some fun k' t' => ?_
  split
  · rename_i e
    rw [gs_some, del_some, del_some, gs_some]
    exact and_assoc
  · rename_i e
    rw [gs_some, del_some, gs_some]
    constructor
    · rintro ⟨⟨h1, h2⟩, h3⟩
      exact ⟨h2, h3⟩
    · rintro ⟨h2, h3⟩
      exact ⟨⟨fun e2 => by rw [e2, hk] at h2; cases h2; exact e h3.symm, h2⟩, h3⟩
theorem gs_fr {p s : Nat} : gs now (frm now h p) s = if p ≤ s then gs now h s else fun _ => none := by
  refine ext_some fun k' t' => ?_
  rw [gs_some, frm_some]
  split
  · rw [gs_some]
    constructor
    · rintro ⟨⟨h1, h2⟩, h3⟩; exact ⟨h1, h3⟩
    · rintro ⟨h1, h3⟩; exact ⟨⟨h1, by omega⟩, h3⟩
  · constructor
    · rintro ⟨⟨h1, h2⟩, h3⟩; omega
    · intro h; cases h
/-- a slot is emptied: what stood from it on stands from the next one on -/
theorem Wq.clear (h0 : K → Option Int) {s : Nat} (q : Wq S w wb ab sv now most n f (frm now h0 s)) (hs : s < 449) {Y : World} (hm : Sl Y (sv s) (fun _ => none)) (hg : w.grownBy Y (sv s)) : Wq S Y wb ab sv now most n f (frm now h0 (s + 1)) := by
  have hsub : ∀ k t, frm now h0 (s + 1) k = some t → f k = some t := fun k t e => q.sub k t (by rw [frm_some] at e ⊢; exact ⟨e.1, by omega⟩)
  have hgs : ∀ i, i ≠ s → gs now (frm now h0 (s + 1)) i = gs now (frm now h0 s) i := fun i hi => by
    rw [gs_fr, gs_fr]
    by_cases e : s ≤ i
    · rw [if_pos e, if_pos (by omega)]
    · rw [if_neg e, if_neg (by omega)]
  have hgs0 : gs now (frm now h0 (s + 1)) s = fun _ => none := by rw [gs_fr, if_neg (by omega)]
  cases hb : sv s with
  | some b =>
    rw [hb] at hm hg
    obtain ⟨m, hm⟩ := hm
    exact q.setSlot hs hb (m := m) (by rw [hgs0]; exact hm) hg (fun i _ hi => hgs i hi) hsub
  | none =>
    rw [hb] at hg
    have q' := q.kept (Y := Y) hg.size fun k hk => hg.block k (q.size k hk) (by simp)
    refine { q' with slot := fun i hi => ?_, sub := hsub }
    by_cases e : i = s
    · subst e; rw [hb, hgs0]; exact fun _ => rfl
    · rw [hgs i e]; exact q'.slot i hi
end
/-- a wheel that has m -/
def Wv (S : Nat → Prop) (w : World) (wb : Nat) (now : Int) (most : Nat) (m : List (K × Int)) : Prop :=
  ∃ ab sv f, Wq S w wb ab sv now most m.length f f ∧ Ls f m
theorem Wv.kept {S : Nat → Prop} {w Y : World} {wb : Nat} {now : Int} {most : Nat} {m : List (K × Int)} (q : Wv S w wb now most m) (hs : w.heap.size ≤ Y.heap.size) (e : ∀ k, S k → Y.heap[k]? = w.heap[k]?) : Wv S Y wb now most m := by
  obtain ⟨ab, sv, f, q, h⟩ := q
  exact ⟨ab, sv, f, q.kept hs e, h⟩
theorem Wv.size {S : Nat → Prop} {w : World} {wb : Nat} {now : Int} {most : Nat} {m : List (K × Int)} (q : Wv S w wb now most m) : ∀ k, S k → k < w.heap.size := by
  obtain ⟨ab, sv, f, q, h⟩ := q
  exact q.size
theorem Wv.fr {S S' : Nat → Prop} {w Y : World} {wb : Nat} {now : Int} {most : Nat} {m : List (K × Int)} (q : Wv S w wb now most m) (e : Fr S' w Y) (hd : ∀ k, S k → ¬ S' k) : Wv S Y wb now most m :=
  q.kept e.size fun k hk => e.block k (q.size k hk) (hd k hk)
theorem Wv.perm {S : Nat → Prop} {w : World} {wb : Nat} {now : Int} {most : Nat} {m m' : List (K × Int)} (q : Wv S w wb now most m) (e : m'.Perm m) : Wv S w wb now most m' := by
  obtain ⟨ab, sv, f, q, h⟩ := q
  exact ⟨ab, sv, f, by rw [e.length_eq]; exact q, h.perm e⟩
end Go.Proofs.Ytcafiehlhdoibaa.Wh
