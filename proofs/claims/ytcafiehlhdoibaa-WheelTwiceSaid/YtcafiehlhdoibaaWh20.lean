
/- wheels: steps in a row, what has been told -/
import Derived.Test.YtcafiehlhdoibaaWh19
import Derived.Test.YtcafiehlhdoibaaWhP
namespace Go.Proofs.Ytcafiehlhdoibaa.Wh
open Go.RowKit Go.Lib Go.Sort Go.Maps Hp Ht
set_option linter.unusedVariables false
set_option maxRecDepth 20000
theorem infoU : (Try.prog.info? 49).map (fun i => (i.zero, i.size, i.bytes)) = some (some (.int .u32 0), 1, 4) := by kernel_rfl
def ucs (l : List Int) : List Value := l.map (Value.int .u32)
theorem ucs_one (l : List Int) : ∀ u ∈ ucs l, u.oneCell' = true := by
  intro u hu
  obtain ⟨x, _, rfl⟩ := List.mem_map.1 hu
  rfl
theorem wp_append {o : Oper} {a : Act} {W W' : World} {F : Act → World → Prop} {Q : Exit → Act → World → Prop} {v u v' : Value} (s x : Operand) (t : TypeId)
    (ho : o.op = .call { callee := .builtin .append, args := #[s, x], argTypes := #[t, t] }) (hs : a.eval s = v) (hx : a.eval x = u)
    (hr : (Builtin.append_ #[t, t] o.type #[v, u]).run Try.prog W = .ok v' W') (h : F (a.put o.dst v') W') : o.wp Try.prog a W F Q := by
  unfold Oper.wp execOp
  simp only [ho, resolve, invoke, builtin, Sem.run_bind, Sem.run_pure, Result.andThen_ok, List.map_toArray, List.map_cons, List.map_nil, hs, hx, hr]
  exact h
theorem below_grown {B : Nat} {X Y : World} {row : Option Nat} (g : X.grownBy Y row) (h : ∀ k, row = some k → B ≤ k) (hB : B ≤ X.heap.size) : Below B X Y :=
  ⟨g.os, g.tape, g.output, g.size, fun k hk => g.block k (by omega) (fun e => by have := h k e.symm; omega)⟩
/-- 'append([]uint32{}, steps...)' -/
theorem append_us (X : World) {B0 : Nat} {u : Value} {a : Option Addr} {n c : Nat} {l : List Int} (hu : X.ownsRow B0 49 1 u 0 []) (h : WhP.InU X a n c l) (hB : B0 ≤ X.heap.size) (hn : n ≤ 1000000) (ty : TypeId) :
    ∃ v2 X2, (Builtin.append_ #[50, 50] ty #[u, .slice a n c]).run Try.prog X = .ok v2 X2 ∧ X2.ownsRow B0 49 1 v2 n (ucs l) ∧ Below B0 X X2 := by
  obtain ⟨i0, hi0, hz0, hz1, hz2⟩ := info_parts infoU
  obtain ⟨h1, h2, h3, h4, h5, h6⟩ := h
  cases a with
  | none =>
    obtain ⟨rfl, rfl⟩ := h5 rfl
    obtain rfl : l = [] := List.eq_nil_of_length_eq_zero h1
    exact ⟨u, X, run_append_owned_none X B0 50 ty 49 i0 1 Try.underlying50 hi0 u 0 [] hu, hu, Below.refl _ _⟩
  | some ad =>
    have hc : ∀ j w, (ucs l)[j]? = some w → X.cell? (ad.add j) = some w := by
      intro j w hj
      have hjl : j < l.length := by
        have := (List.getElem?_eq_some_iff.1 hj).1
        simpa [ucs] using this
      rcases h6 with h6 | ⟨b, o, e, h6⟩
      · omega
      · cases e
        rw [Op.add_none, h6 j (by omega), ← hj]
        simp [ucs, List.getElem?_eq_getElem hjl, List.getD_eq_getElem?_getD]
    obtain ⟨v2, X2, r2, o2, g2, _⟩ := run_append_own (P := Try.prog) X B0 50 ty 49 i0 _ 1 4 Try.underlying50 hi0 hz0 hz1 hz2 rfl (by decide) _ 0 [] hu ad n c (ucs l) (by simp [ucs]; omega) hc (ucs_one l) (by unfold maxLen; omega) (by omega) hB
    rw [Nat.zero_add, List.nil_append] at o2
    exact ⟨v2, X2, r2, o2, below_grown g2 (fun k hk => (hu.lt k hk).1) hB⟩
/-- '.. , 1<<32-1, 1)' -/
theorem append_two (X : World) {B0 : Nat} {v : Value} {n : Nat} {l : List Int} (hu : X.ownsRow B0 49 1 v n (ucs l)) (hB : B0 ≤ X.heap.size) (hn : n ≤ 1000000) (ty : TypeId) (p q : Int) :
    ∃ v2 X2, (Builtin.append_ #[50, 50] ty #[v, .slice (some ⟨X.heap.size, 0, none⟩) 2 2]).run Try.prog (X.alloc (.cells #[.int .u32 p, .int .u32 q] 49)) = .ok v2 X2 ∧ X2.ownsRow B0 49 1 v2 (n + 2) (ucs (l ++ [p, q])) ∧ Below B0 X X2 := by
  obtain ⟨i0, hi0, hz0, hz1, hz2⟩ := info_parts infoU
  have hc : ∀ j w, (ucs [p, q])[j]? = some w → (X.alloc (.cells #[.int .u32 p, .int .u32 q] 49)).cell? ((⟨X.heap.size, 0, none⟩ : Addr).add j) = some w := by
    intro j w hj
    match j, hj with
    | 0, hj | 1, hj =>
      simp [ucs] at hj
      subst hj
      simp [Addr.add]
  obtain ⟨v2, X2, r2, o2, g2, _⟩ := run_append_own (P := Try.prog) (X.alloc (.cells #[.int .u32 p, .int .u32 q] 49)) B0 50 ty 49 i0 _ 1 4 Try.underlying50 hi0 hz0 hz1 hz2 rfl (by decide) _ n (ucs l) (hu.alloc _) ⟨X.heap.size, 0, none⟩ 2 2 (ucs [p, q]) rfl hc (ucs_one _) (by unfold maxLen; omega) (by omega) (by simp; omega)
  refine ⟨v2, X2, r2, ?_, ((Below.refl B0 X).alloc hB _).trans (below_grown g2 (fun k hk => (hu.lt k hk).1) (by simp; omega))⟩
  have : ucs (l ++ [p, q]) = ucs l ++ ucs [p, q] := by simp [ucs]
  rw [this]; exact o2
theorem inU_old {w X : World} {a : Option Addr} {n c : Nat} {l : List Int} (h : WhP.InU w a n c l) (b : Below w.heap.size w X) : WhP.InU X a n c l := by
  obtain ⟨h1, h2, h3, h4, h5, h6⟩ := h
  refine ⟨h1, h2, h3, h4, h5, h6.imp_right fun ⟨b', o, e, h⟩ => ⟨b', o, e, fun i hi => ?_⟩⟩
  exact (b.cell (World.block_lt_of_cell? _ _ (h i hi))).trans (h i hi)
/-- so far the steps go -/
def sm (l : List Int) : Nat → Int
  | 0 => 0
  | k + 1 => sm l k + l.getD k 0
theorem sm_bound {l : List Int} (h : ∀ x ∈ l, 0 ≤ x ∧ x < 4294967296) (k : Nat) : 0 ≤ sm l k ∧ sm l k ≤ (k : Int) * 4294967295 := by
  induction k with
  | zero => simp [sm]
  | succ k ih =>
    unfold sm
    have hg : 0 ≤ l.getD k 0 ∧ l.getD k 0 < 4294967296 := by
      rw [List.getD_eq_getElem?_getD]
      cases e : l[k]? with
      | none => simp
      | some x => exact h x (List.mem_of_getElem? e)
    push_cast
    omega
/-- a row's number -/
theorem us_cell {X : World} {B : Nat} {a : Option Addr} {n c : Nat} {l : List Int} (h : X.ownsRow B 49 1 (.slice a n c) n (ucs l)) (hn : n = l.length) {j : Nat} (hj : j < n) : ∃ g, a = some ⟨g, 0, none⟩ ∧ X.cell? ⟨g, j, none⟩ = some (.int .u32 (l.getD j 0)) := by
  rcases h.2 with ⟨e, h0⟩ | ⟨g, cap, cur, e, hB, h1, hf, hc, h2, h3⟩
  · omega
  · cases e
    refine ⟨g, rfl, ?_⟩
    rw [cell_of_row X g _ cur _ _ h1]
    have h4 : (ucs l)[j]? = some (.int .u32 (l.getD j 0)) := by
      simp [ucs, List.getElem?_eq_getElem (show j < l.length by omega), List.getD_eq_getElem?_getD]
    rw [← h3, List.getElem?_take_of_lt (by omega), Array.getElem?_toList] at h4
    exact h4
/-- what has been told, and what is left -/
structure Tq (w : World) (wb tb g3 : Nat) (M : List (K × Int)) (L : List Int) (rv : Value) (now : Int) (X : World) (at' : Int) (cnt : Nat) (tj : K → Option Int) (r : List (K × Int)) : Prop where
  ow : Ow w.heap.size (fun x => x = tb ∨ x = g3) X wb at' 100 r
  mp : Mq X tb cnt tj
  tt : ∀ k t, tj k = some t ↔ (k, t) ∈ M ∧ (k, t) ∉ r
  rs : ∀ p ∈ r, p ∈ M
  nd : (r.map (·.1)).Nodup
  late : ∀ p ∈ r, at' < p.2 ∨ p.2 = now
  cn : cnt + r.length = M.length
  row : X.ownsRow w.heap.size 49 1 rv L.length (ucs L)
  own : rv.ownBlock = some g3
  bel : Below w.heap.size w X
  tb : w.heap.size ≤ tb
/-- .. within a turn -/
structure Ti (w : World) (wb tb g3 : Nat) (M : List (K × Int)) (L : List Int) (rv : Value) (r : List (K × Int)) (at' : Int) (cnt : Nat) (tj : K → Option Int) (v : Value) (ls : List (K × Int)) (X : World) (i : Nat) (ti : K → Option Int) : Prop where
  ow : Ow w.heap.size (fun x => (x = tb ∨ x = g3) ∨ Sb v x) X wb at' 100 (r.filter fun x => decide (at' < x.2))
  mp : Mq X tb (cnt + i) ti
  tt : ∀ k t, ti k = some t ↔ tj k = some t ∨ (k, t) ∈ ls.take i
  src : Src X v ls
  row : X.ownsRow w.heap.size 49 1 rv L.length (ucs L)
  bel : Below w.heap.size w X
  sb : ∀ x, Sb v x → x < X.heap.size ∧ x ≠ tb
theorem us_block {X : World} {B : Nat} {v : Value} {n : Nat} {l : List Int} (h : X.ownsRow B 49 1 v n (ucs l)) {b : Nat} (hb : v.ownBlock = some b) : B ≤ b ∧ b < X.heap.size ∧ ∃ cur, X.heap[b]? = some (.cells cur 49 (0, 0)) := by
  refine ⟨(h.lt b hb).1, (h.lt b hb).2, ?_⟩
  rcases h.2 with ⟨rfl, _⟩ | ⟨g2, cap, cur, rfl, _, h3, _⟩
  · cases hb
  · cases hb; exact ⟨cur, h3⟩
theorem take_mem_next {ls : List (K × Int)} {i : Nat} (hi : i < ls.length) (p : K × Int) : p ∈ ls.take (i + 1) ↔ p ∈ ls.take i ∨ p = el ls i := by
  rw [take_next hi, List.mem_append, List.mem_singleton]
section
variable {w : World} {wb tb g3 : Nat} {M : List (K × Int)} {L : List Int} {rv : Value} {now : Int} {X Y : World} {at' : Int} {cnt : Nat} {tj : K → Option Int} {r : List (K × Int)} {v : Value} {ls : List (K × Int)}
theorem Tq.later (p : Tq w wb tb g3 M L rv now X at' cnt tj r) (b : Below X.heap.size X Y) : Tq w wb tb g3 M L rv now Y at' cnt tj r :=
  { p with ow := p.ow.below b, mp := p.mp.kept (b.block _ p.mp.lt), row := own_kept p.row fun k hk => b.block k (us_block p.row hk).2.1, bel := p.bel.trans (b.mono p.bel.size) }
/-- a turn's answer is told -/
theorem Tq.turn {at0 : Int} (p : Tq w wb tb g3 M L rv now X at0 cnt tj r) (hp : ls.Perm (r.filter fun x => decide (x.2 ≤ at'))) (hs : Src Y v ls) (hn : ∀ x, Sb v x → X.heap.size ≤ x ∧ x < Y.heap.size) (ho : Ow w.heap.size (fun x => (x = tb ∨ x = g3) ∨ Sb v x) Y wb at' 100 (r.filter fun x => decide (at' < x.2))) (hf : Fo w.heap.size (fun x => x = tb ∨ x = g3) X Y) :
    Ti w wb tb g3 M L rv r at' cnt tj v ls Y 0 tj :=
  ⟨ho, p.mp.kept (hf.kept (.inl rfl) p.mp.lt), fun k t => by simp, hs, own_kept p.row fun b hb => hf.kept (.inr (by rw [p.own] at hb; exact (Option.some.inj hb).symm)) (us_block p.row hb).2.1, hf.below p.bel p.bel.size,
    fun x hx => ⟨(hn x hx).2, fun e => by have := (hn x hx).1; have := p.mp.lt; omega⟩⟩
theorem Ti.later {i : Nat} {ti : K → Option Int} (q : Ti w wb tb g3 M L rv r at' cnt tj v ls X i ti) (b : Below X.heap.size X Y) : Ti w wb tb g3 M L rv r at' cnt tj v ls Y i ti :=
  ⟨q.ow.below b, q.mp.kept (b.block _ q.mp.lt), q.tt, q.src.kept' fun x hx => b.block x (q.sb x hx).1, own_kept q.row fun k hk => b.block k (us_block q.row hk).2.1, q.bel.trans (b.mono q.bel.size), fun x hx => ⟨Nat.lt_of_lt_of_le (q.sb x hx).1 b.size, (q.sb x hx).2⟩⟩
theorem Ti.told {i : Nat} {ti : K → Option Int} (q : Ti w wb tb g3 M L rv r at' cnt tj v ls X i ti) (hi : i < ls.length) (htb : w.heap.size ≤ tb) (hf : ti (el ls i).1 = none) (hm : Mq Y tb (cnt + i + 1) (upd ti (el ls i).1 (el ls i).2)) (hg : X.grownBy Y (some tb)) :
    Ti w wb tb g3 M L rv r at' cnt tj v ls Y (i + 1) (upd ti (el ls i).1 (el ls i).2) where
  ow := q.ow.other (Fr.grown hg (.inl (.inl (.inl rfl))))
  mp := hm
  tt k t := by
    rw [upd_some, take_mem_next hi, q.tt]
    constructor
    · rintro (⟨rfl, rfl⟩ | ⟨_, e | e⟩)
      · exact .inr (.inr rfl)
      · exact .inl e
      · exact .inr (.inl e)
    · rintro (e | e | e)
      · exact .inr ⟨fun e2 => (by have := (q.tt k t).2 (.inl e); rw [e2, hf] at this; cases this), .inl e⟩
      · exact .inr ⟨fun e2 => (by have := (q.tt k t).2 (.inr e); rw [e2, hf] at this; cases this), .inr e⟩
      · exact .inl ⟨by rw [← e], by rw [← e]⟩
  src := q.src.kept' fun x hx => hg.block x (q.sb x hx).1 (fun e => (q.sb x hx).2 (Option.some.inj e))
  row := own_kept q.row fun b hb => hg.block b (us_block q.row hb).2.1 (fun e => by
    obtain ⟨_, _, cur, h3⟩ := us_block q.row hb
    obtain ⟨es, c, h4⟩ := q.mp.at
    rw [← Option.some.inj e, h3] at h4; cases h4)
  bel := q.bel.grown hg q.bel.size (fun j hj => by cases hj; exact htb)
  sb x hx := ⟨Nat.lt_of_lt_of_le (q.sb x hx).1 hg.size, (q.sb x hx).2⟩
/-- one that is told wasn't told already -/
theorem Ti.fresh {at0 : Int} {i : Nat} {ti : K → Option Int} {X0 : World} (p : Tq w wb tb g3 M L rv now X0 at0 cnt tj r) (hM : (M.map (·.1)).Nodup) (q : Ti w wb tb g3 M L rv r at' cnt tj v ls X i ti) (hp : ls.Perm (r.filter fun x => decide (x.2 ≤ at'))) (hi : i < ls.length) : ti (el ls i).1 = none := by
  have hmem : el ls i ∈ r.filter fun x => decide (x.2 ≤ at') := hp.mem_iff.1 (el_mem hi)
  have hr := (List.mem_filter.1 hmem).1
  cases e : ti (el ls i).1 with
  | none => rfl
  | some t =>
    exfalso
    rcases (q.tt _ _).1 e with e1 | e1
    · have h1 := (p.tt _ _).1 e1
      have hL := ls_fm hM
      have h2 := (hL.2 _ _).1 h1.1
      have h3 := (hL.2 (el ls i).1 (el ls i).2).1 (p.rs _ hr)
      rw [h3] at h2
      have h4 := Option.some.inj h2
      exact h1.2 (by rw [← h4]; exact hr)
    · have hnd : (ls.map (·.1)).Nodup := ((hp.map (·.1)).nodup_iff).2 (List.Nodup.sublist (List.filter_sublist.map _) p.nd)
      exact (Rw.once (f := fm ls) (h1 := fun _ => none) ⟨hnd, fun k t h => ((ls_fm hnd).2 k t).1 h, (fun k t h => by cases h), fun k t h => rfl⟩ hi) e1
theorem Ti.done {at0 : Int} {ti : K → Option Int} {X0 : World} (p : Tq w wb tb g3 M L rv now X0 at0 cnt tj r) (q : Ti w wb tb g3 M L rv r at' cnt tj v ls X ls.length ti) (hp : ls.Perm (r.filter fun x => decide (x.2 ≤ at'))) :
    Tq w wb tb g3 M L rv now X at' (cnt + ls.length) ti (r.filter fun x => decide (at' < x.2)) where
  ow := q.ow.less fun x hx => .inl hx
  mp := q.mp
  tt k t := by
    rw [q.tt, List.take_length, p.tt, hp.mem_iff, List.mem_filter, List.mem_filter]
    simp only [decide_eq_true_eq]
    constructor
    · rintro (⟨e1, e2⟩ | ⟨e1, e2⟩)
      · exact ⟨e1, fun e => e2 e.1⟩
      · exact ⟨p.rs _ e1, fun e => by have := e.2; omega⟩
    · rintro ⟨e1, e2⟩
      by_cases e3 : (k, t) ∈ r
      · exact .inr ⟨e3, by
          rcases Int.lt_or_le at' t with h | h
          · exact absurd ⟨e3, h⟩ e2
          · exact h⟩
      · exact .inl ⟨e1, e3⟩
  rs x hx := p.rs x (List.mem_filter.1 hx).1
  nd := List.Nodup.sublist (List.filter_sublist.map _) p.nd
  late x hx := .inl (by have := (List.mem_filter.1 hx).2; simpa using this)
  cn := by
    have h1 := len_parts r fun x => decide (x.2 ≤ at')
    have h2 := hp.length_eq
    have h3 := p.cn
    have h4 : (r.filter fun x => !decide (x.2 ≤ at')) = r.filter fun x => decide (at' < x.2) := by
      congr 1
      funext x
      by_cases h : x.2 ≤ at'
      · simp [h]
      · simp [h]; omega
    rw [h4] at h1
    omega
  row := q.row
  own := p.own
  bel := q.bel
  tb := p.tb
end
end Go.Proofs.Ytcafiehlhdoibaa.Wh
