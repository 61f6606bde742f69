
/- WheelPlays: a wheel beside a model -/
import Derived.Test.YtcafiehlhdoibaaWh24
namespace Go.Proofs.Ytcafiehlhdoibaa.Wh
open Go.RowKit Go.Lib Go.Sort Go.Maps Hp Ht
set_option linter.unusedVariables false
set_option maxRecDepth 20000
theorem el_inj {l : List (K × Int)} (hn : (l.map (·.1)).Nodup) {i j : Nat} (hi : i < l.length) (hj : j < l.length) (e : (el l i).1 = (el l j).1) : i = j := by
  have h1 : (l.map (·.1))[i]'(by simpa using hi) = (l.map (·.1))[j]'(by simpa using hj) := by
    simp only [List.getElem_map]
    rw [← el_eq hi, ← el_eq hj]; exact e
  have hp := List.pairwise_iff_getElem.1 (List.nodup_iff_pairwise_ne.1 hn)
  rcases Nat.lt_trichotomy i j with h | h | h
  · exact absurd h1 (hp i j _ _ h)
  · exact h
  · exact absurd h1.symm (hp j i _ _ h)
/-- where one is, as a number -/
theorem find_is {l : List (K × Int)} (hn : (l.map (·.1)).Nodup) (hl : l.length ≤ 1000000) (k : K) : ∃ z : Int, ((z = -1 ∧ k ∉ l.map (·.1)) ∨ ∃ i : Nat, z = ((i : Nat) : Int) ∧ i < l.length ∧ (el l i).1 = k) ∧
    ∀ X v, Src X v l → Calls Try.prog 16 #[v, ek k] X fun e Y => e = .returned (.int .i64 z) ∧ Y = X := by
  by_cases hk : k ∈ l.map (·.1)
  · obtain ⟨x, hx, rfl⟩ := List.mem_map.1 hk
    obtain ⟨i, hi, rfl⟩ := mem_el hx
    refine ⟨((i : Nat) : Int), .inr ⟨i, rfl, hi, rfl⟩, fun X v h => (find_any X h hl _).mono ?_⟩
    rintro e Y ⟨rfl, ⟨j, hj, ej, rfl⟩ | ⟨h1, _⟩⟩
    · rw [el_inj hn hi hj ej.symm]; exact ⟨rfl, rfl⟩
    · exact absurd hk h1
  · refine ⟨-1, .inl ⟨rfl, hk⟩, fun X v h => (find_any X h hl _).mono ?_⟩
    rintro e Y ⟨rfl, ⟨j, hj, ej, rfl⟩ | ⟨_, rfl⟩⟩
    · exact absurd (List.mem_map.2 ⟨_, el_mem hj, ej⟩) hk
    · exact ⟨rfl, rfl⟩
theorem fm_at {m : List (K × Int)} (hn : (m.map (·.1)).Nodup) {i : Nat} (hi : i < m.length) : fm m (el m i).1 = some (el m i).2 := ((ls_fm hn).2 _ _).1 (el_mem hi)
theorem cut_one {m : List (K × Int)} (hn : (m.map (·.1)).Nodup) {i : Nat} (hi : i < m.length) : m.eraseIdx i = m.filter fun x => x.1 ≠ (el m i).1 := by
  induction m generalizing i with
  | nil => simp at hi
  | cons x m ih =>
    rw [List.map_cons, List.nodup_cons] at hn
    cases i with
    | zero =>
      rw [List.eraseIdx_cons_zero, el_zero, List.filter_cons_of_neg (by simp), List.filter_eq_self.2]
      intro y hy
      simp only [ne_eq, decide_not, Bool.not_eq_eq_eq_not, Bool.not_true, decide_eq_false_iff_not]
      exact fun e => hn.1 (List.mem_map.2 ⟨y, hy, e⟩)
    | succ i =>
      have hi2 : i < m.length := by simpa using hi
      rw [List.eraseIdx_cons_succ, el_succ, ih hn.2 hi2, List.filter_cons_of_pos]
      simp only [ne_eq, decide_not, Bool.not_eq_eq_eq_not, Bool.not_true, decide_eq_false_iff_not]
      exact fun e => hn.1 (List.mem_map.2 ⟨_, el_mem hi2, e.symm⟩)
theorem cut_none {m : List (K × Int)} {k : K} (hk : k ∉ m.map (·.1)) : m.filter (fun x => x.1 ≠ k) = m := by
  rw [List.filter_eq_self]
  intro y hy
  simp only [ne_eq, decide_not, Bool.not_eq_eq_eq_not, Bool.not_true, decide_eq_false_iff_not]
  exact fun e => hk (List.mem_map.2 ⟨y, hy, e⟩)
section
variable {B : Nat} {N : Nat → Prop} {X Y : World} {wb mb : Nat} {now : Int} {most : Nat} {m : List (K × Int)}
theorem Ow.nd (h : Ow B N X wb now most m) : (m.map (·.1)).Nodup := by
  obtain ⟨S, ⟨ab, sv, f, q, hL⟩, _⟩ := h
  exact hL.1
theorem Ow.ok (h : Ow B N X wb now most m) : ∀ p ∈ m, wk p.1 ∧ Tk p.2 := by
  obtain ⟨S, ⟨ab, sv, f, q, hL⟩, _⟩ := h
  intro p hp
  exact q.okf _ _ ((hL.2 p.1 p.2).1 hp)
theorem Ow.tk (h : Ow B N X wb now most m) : Tk now := by
  obtain ⟨S, ⟨ab, sv, f, q, hL⟩, _⟩ := h
  exact q.tick
/-- a wheel (it has mw at nw) beside a model (mm at nm); all from block B on and apart from the blocks N -/
structure Pl (B : Nat) (N : Nat → Prop) (X : World) (wb mb : Nat) (lv : Value) (most : Nat) (nw : Int) (mw : List (K × Int)) (nm : Int) (mm : List (K × Int)) : Prop where
  w : Ow B (fun x => N x ∨ x = mb ∨ lv.ownBlock = some x) X wb nw most mw
  o : X.heap[mb]? = some (.cells #[.int .i64 nm, .int .i64 ((most : Nat) : Int), lv] 31 (0, 0))
  r : Own X B lv mm
  a : B ≤ mb ∧ ¬ N mb ∧ ∀ x, lv.ownBlock = some x → ¬ N x ∧ x ≠ mb
variable {lv : Value} {nw nm : Int} {mw mm : List (K × Int)}
theorem Pl.lt (h : Pl B N X wb mb lv most nw mw nm mm) : mb < X.heap.size := (Array.getElem?_eq_some_iff.1 h.o).1
theorem Pl.cells (h : Pl B N X wb mb lv most nw mw nm mm) : X.cell? ⟨mb, 0, none⟩ = some (.int .i64 nm) ∧ X.cell? ⟨mb, 1, none⟩ = some (.int .i64 ((most : Nat) : Int)) ∧ X.cell? ⟨mb, 2, none⟩ = some lv ∧ ∀ j, X.frozen? ⟨mb, j, none⟩ = false := by
  refine ⟨?_, ?_, ?_, fun j => ?_⟩
  · rw [cell_of_row _ _ _ _ _ _ h.o]; rfl
  · rw [cell_of_row _ _ _ _ _ _ h.o]; rfl
  · rw [cell_of_row _ _ _ _ _ _ h.o]; rfl
  · simp [World.frozen?, h.o]
/-- other blocks are to be let alone from here on -/
theorem Pl.more {N' : Nat → Prop} (h : Pl B N X wb mb lv most nw mw nm mm) (b : Below X.heap.size X Y) (hN : ∀ x, N' x → X.heap.size ≤ x) : Pl B N' Y wb mb lv most nw mw nm mm where
  w := (h.w.to (N' := fun x => N' x ∨ x = mb ∨ lv.ownBlock = some x) fun x _ h1 h2 e => e.elim (fun e => by have := hN x e; omega) fun e => h1 (.inr e)).below b
  o := (b.block mb h.lt).trans h.o
  r := own_kept h.r fun x hx => b.block x (own_cell h.r hx).2.1
  a := ⟨h.a.1, fun e => by have := hN mb e; have := h.lt; omega, fun x hx => ⟨fun e => by have := hN x e; have := (own_cell h.r hx).2.1; omega, (h.a.2.2 x hx).2⟩⟩
/-- the blocks N stay let alone -/
theorem Pl.also {N' : Nat → Prop} (h : Pl B N X wb mb lv most nw mw nm mm) (b : Below X.heap.size X Y) (hN : ∀ x, N' x → X.heap.size ≤ x) : Pl B (fun x => N x ∨ N' x) Y wb mb lv most nw mw nm mm where
  w := (h.w.to (N' := fun x => (N x ∨ N' x) ∨ x = mb ∨ lv.ownBlock = some x) fun x _ h1 h2 e => by
    rcases e with (e | e) | e
    · exact h1 (.inl e)
    · have := hN x e; omega
    · exact h1 (.inr e)).below b
  o := (b.block mb h.lt).trans h.o
  r := own_kept h.r fun x hx => b.block x (own_cell h.r hx).2.1
  a := ⟨h.a.1, fun e => e.elim h.a.2.1 fun e => by have := hN mb e; have := h.lt; omega, fun x hx => ⟨fun e => e.elim (h.a.2.2 x hx).1 fun e => by have := hN x e; have := (own_cell h.r hx).2.1; omega, (h.a.2.2 x hx).2⟩⟩
theorem Pl.less {N' : Nat → Prop} (h : Pl B N X wb mb lv most nw mw nm mm) (hN : ∀ x, N' x → N x) : Pl B N' X wb mb lv most nw mw nm mm where
  w := h.w.less fun x e => e.elim (fun e => .inl (hN x e)) .inr
  o := h.o
  r := h.r
  a := ⟨h.a.1, fun e => h.a.2.1 (hN mb e), fun x hx => ⟨fun e => (h.a.2.2 x hx).1 (hN x e), (h.a.2.2 x hx).2⟩⟩
theorem Pl.old (h : Pl B N X wb mb lv most nw mw nm mm) (b : Below X.heap.size X Y) : Pl B N Y wb mb lv most nw mw nm mm :=
  (h.also (N' := fun _ => False) b fun _ e => e.elim).less fun _ e => .inl e
/-- the wheel has been through an act -/
theorem Pl.act {nw' : Int} {mw' : List (K × Int)} (h : Pl B N X wb mb lv most nw mw nm mm) (q : Ow B (fun x => N x ∨ x = mb ∨ lv.ownBlock = some x) Y wb nw' most mw') (f : Fo B (fun x => N x ∨ x = mb ∨ lv.ownBlock = some x) X Y) :
    Pl B N Y wb mb lv most nw' mw' nm mm ∧ Fo B N X Y := by
  refine ⟨⟨q, ?_, ?_, h.a⟩, f.mono fun x _ e => ⟨e.1, fun e2 => e.2 (.inl e2)⟩⟩
  · exact (f.kept (.inr (.inl rfl)) h.lt).trans h.o
  · exact own_kept h.r fun x hx => f.kept (.inr (.inr hx)) (own_cell h.r hx).2.1
/-- the model's row is another one -/
theorem Pl.set {v2 : Value} {mm2 : List (K × Int)} (h : Pl B N X wb mb lv most nw mw nm mm) (f : Fr (fun x => lv.ownBlock = some x) X Y) (o2 : Own Y B v2 mm2) (hv : ∀ x, v2.ownBlock = some x → lv.ownBlock = some x ∨ X.heap.size ≤ x)
    (hN : ∀ x, N x → x < X.heap.size) : Pl B N (Y.setCell ⟨mb, 2, none⟩ v2) wb mb v2 most nw mw nm mm2 ∧ Fo B N X (Y.setCell ⟨mb, 2, none⟩ v2) := by
  have hm := h.lt
  have om : Y.heap[mb]? = some (.cells #[.int .i64 nm, .int .i64 ((most : Nat) : Int), lv] 31 (0, 0)) := (f.block mb hm fun e => (h.a.2.2 mb e).2 rfl).trans h.o
  have hot : ∀ k, k ≠ mb → (Y.setCell ⟨mb, 2, none⟩ v2).heap[k]? = Y.heap[k]? := fun k hk => heap_setCell_other _ _ _ _ hk
  have f2 : Fr (fun x => x = mb ∨ lv.ownBlock = some x) X (Y.setCell ⟨mb, 2, none⟩ v2) := ⟨f.os, f.tape, f.output, by simpa using f.size, fun k hk hn => (hot k fun e => hn (.inl e)).trans (f.block k hk fun e => hn (.inr e))⟩
  refine ⟨⟨?_, ?_, ?_, ?_⟩, ?_⟩
  · refine ((h.w.to (N' := fun x => N x ∨ (x = mb ∨ lv.ownBlock = some x) ∨ v2.ownBlock = some x) ?_).keep f2 ?_).less ?_
    · rintro x _ h1 h2 (e | e | e)
      · exact h1 (.inl e)
      · exact h1 (.inr e)
      · rcases hv x e with e | e
        · exact h1 (.inr (.inr e))
        · omega
    · exact fun x _ hn _ e => hn (.inr (.inl e))
    · rintro x (e | e | e)
      · exact .inl e
      · exact .inr (.inl (.inl e))
      · exact .inr (.inr e)
  · rw [Lib.heap_setCell_same om]; rfl
  · refine own_kept o2 fun x hx => hot x ?_
    rcases hv x hx with e | e
    · exact (h.a.2.2 x e).2
    · omega
  · refine ⟨h.a.1, h.a.2.1, fun x hx => ?_⟩
    rcases hv x hx with e | e
    · exact h.a.2.2 x e
    · exact ⟨fun e2 => by have := hN x e2; omega, by omega⟩
  · exact f2.mono fun x _ e => by
      rcases e with e | e
      · subst e; exact ⟨h.a.1, h.a.2.1⟩
      · exact ⟨(own_cell h.r e).1, (h.a.2.2 x e).1⟩
theorem Pl.setNow {t : Int} (h : Pl B N X wb mb lv most nw mw nm mm) : Pl B N (X.setCell ⟨mb, 0, none⟩ (.int .i64 t)) wb mb lv most nw mw t mm ∧ Fo B N X (X.setCell ⟨mb, 0, none⟩ (.int .i64 t)) := by
  have hot : ∀ k, k ≠ mb → (X.setCell ⟨mb, 0, none⟩ (.int .i64 t)).heap[k]? = X.heap[k]? := fun k hk => heap_setCell_other _ _ _ _ hk
  have f2 : Fr (fun x => x = mb) X (X.setCell ⟨mb, 0, none⟩ (.int .i64 t)) := ⟨rfl, rfl, rfl, by simp, fun k hk hn => hot k hn⟩
  refine ⟨⟨h.w.keep f2 fun x _ hn _ e => hn (.inr (.inl e)), ?_, own_kept h.r fun x hx => hot x (h.a.2.2 x hx).2, h.a⟩, f2.mono fun x _ e => by subst e; exact ⟨h.a.1, h.a.2.1⟩⟩
  rw [Lib.heap_setCell_same h.o]; rfl
/-- a timer goes behind the model's row -/
theorem Pl.push (h : Pl B N X wb mb lv most nw mw nm mm) (hB : B ≤ X.heap.size) (hN : ∀ x, N x → x < X.heap.size) (hl : mm.length ≤ 1000000) (k : K) (t : Int) (ty : TypeId) :
    ∃ v2 X2, (Builtin.append_ #[29, 29] ty #[lv, .slice (some ⟨X.heap.size, 0, none⟩) 1 1]).run Try.prog (X.alloc (.cells #[ek k, er t] 42)) = .ok v2 X2 ∧
      X2.frozen? ⟨mb, 2, none⟩ = false ∧ (∃ u, X2.cell? ⟨mb, 2, none⟩ = some u) ∧ Pl B N (X2.setCell ⟨mb, 2, none⟩ v2) wb mb v2 most nw mw nm (mm ++ [(k, t)]) ∧ Fo B N X (X2.setCell ⟨mb, 2, none⟩ v2) := by
  obtain ⟨i0, hi0, hz0, hz1, hz2⟩ := info_parts infoT
  have hbA : Below X.heap.size X (X.alloc (.cells #[ek k, er t] 42)) := (Below.refl _ _).alloc (Nat.le_refl _) _
  have h1 := h.old hbA
  have hc : ∀ j u, [ek k, er t][j]? = some u → (X.alloc (.cells #[ek k, er t] 42)).cell? ((⟨X.heap.size, 0, none⟩ : Addr).add j) = some u := by
    intro j u hj
    rw [Addr.add_mid, Nat.zero_add, cell_of_row _ _ _ _ _ _ (MapKept.heap_alloc X _).1]
    match j, hj with
    | 0, hj => simpa using hj
    | 1, hj => simpa using hj
  obtain ⟨v2, X2, hr2, o2, hg, hn2⟩ := Ao.run_append_own_new (P := Try.prog) (X.alloc (.cells #[ek k, er t] 42)) B 29 ty 42 i0 _ 2 24 Try.underlying29 hi0 hz0 hz1 hz2 rfl (by decide) _ mm.length (cs mm) h1.r ⟨X.heap.size, 0, none⟩ 1 1 [ek k, er t] rfl hc (cs_one [(k, t)]) (by unfold maxLen; omega) (by omega) (by have := hbA.size; omega)
  have o3 : Own X2 B v2 (mm ++ [(k, t)]) := by
    unfold Own
    rw [cs_app, List.length_append]; exact o2
  have f : Fr (fun x => lv.ownBlock = some x) X X2 := (Fr.of_below hbA).trans (Fr.grownN (S := fun x => lv.ownBlock = some x) hg fun b e => .inl e) fun x e => .inl e
  have om : X2.heap[mb]? = some (.cells #[.int .i64 nm, .int .i64 ((most : Nat) : Int), lv] 31 (0, 0)) := (f.block mb h.lt fun e => (h.a.2.2 mb e).2 rfl).trans h.o
  have := h.set f o3 (fun x hx => by
    rcases hn2 with h2 | ⟨g2, h2, h3⟩
    · rw [hx] at h2; exact .inl h2.symm
    · rw [hx] at h2; obtain rfl := Option.some.inj h2; have := hbA.size; exact .inr (by omega)) hN
  exact ⟨v2, X2, hr2, by simp [World.frozen?, om], ⟨lv, by rw [cell_of_row _ _ _ _ _ _ om]; rfl⟩, this.1, this.2⟩
theorem Fo.less {N' : Nat → Prop} (f : Fo B N X Y) (hN : ∀ x, N' x → N x) : Fo B N' X Y := f.mono fun x _ e => ⟨e.1, fun e2 => e.2 (hN x e2)⟩
theorem below_drewN (X : World) (n : Nat) : Below X.heap.size X (X.drewN n) := ⟨rfl, rfl, rfl, Nat.le_refl _, fun _ _ => rfl⟩
theorem Pl.nlt (h : Pl B N X wb mb lv most nw mw nm mm) (hN : ∀ x, N x → x < X.heap.size) : ∀ x, (N x ∨ x = mb ∨ lv.ownBlock = some x) → x < X.heap.size := by
  rintro x (e | e | e)
  · exact hN x e
  · subst e; exact h.lt
  · exact (own_cell h.r e).2.1
theorem Pl.addBad (h : Pl B N X wb mb lv most nw mw nm mm) {k : K} {t : Int} (hb : k = [] ∨ ¬ (0 ≤ t ∧ t ≤ MT)) : Calls Try.prog 19 #[.pointer (some ⟨wb, 0, none⟩), ek k, .int .i64 t] X fun e Y => e = .returned (.int .i64 1) ∧ Below X.heap.size X Y := by
  obtain ⟨S, q, _⟩ := h.w
  refine (add_bad q hb).mono ?_
  rintro e Y ⟨rfl, rfl⟩
  exact ⟨rfl, Below.refl _ _⟩
theorem Pl.addNo (h : Pl B N X wb mb lv most nw mw nm mm) (hm : mw.length ≤ 1000000) {k : K} {t : Int} (h1 : ¬ k = []) (hk : wk k) (ht : Tk t) {c : Int} (hc : (k ∈ mw.map (·.1) ∧ c = 8) ∨ (k ∉ mw.map (·.1) ∧ most ≤ mw.length ∧ c = 6)) :
    Calls Try.prog 19 #[.pointer (some ⟨wb, 0, none⟩), ek k, .int .i64 t] X fun e Y => e = .returned (.int .i64 c) ∧ Below X.heap.size X Y := by
  have hn := h.w.nd
  obtain ⟨S, q, _⟩ := h.w
  refine (add_no q (ls_fm hn) h1 hk ht (c := c) ?_ hm).mono ?_
  · rcases hc with ⟨a, b⟩ | ⟨a, b⟩
    · obtain ⟨x, hx, rfl⟩ := List.mem_map.1 a
      obtain ⟨i, hi, rfl⟩ := mem_el hx
      rw [fm_at hn hi]; exact .inl ⟨rfl, b⟩
    · exact .inr ⟨fm_none a, b⟩
  · rintro e Y ⟨rfl, d, rfl⟩
    exact ⟨rfl, below_drewN _ _⟩
theorem Pl.add (h : Pl B N X wb mb lv most nw mw nm mm) (hB : B ≤ X.heap.size) (hN : ∀ x, N x → x < X.heap.size) (hm : mw.length ≤ 900000) {k : K} {t : Int} (h1 : ¬ k = []) (hk : wk k) (ht : Tk t) (hn : k ∉ mw.map (·.1)) (hlt : mw.length < most) :
    Calls Try.prog 19 #[.pointer (some ⟨wb, 0, none⟩), ek k, .int .i64 t] X fun e Y => e = .returned (.int .i64 0) ∧ Pl B N Y wb mb lv most nw (mw ++ [(k, t)]) nm mm ∧ Fo B N X Y := by
  refine (h.w.add hB (h.nlt hN) (ls_fm h.w.nd) h1 hk ht (fm_none hn) hlt hm).mono ?_
  rintro e Y ⟨rfl, q, f⟩
  exact ⟨rfl, (h.act q f).1, (h.act q f).2⟩
theorem Pl.cut (h : Pl B N X wb mb lv most nw mw nm mm) {k : K} (hk : wk k) :
    Calls Try.prog 21 #[.pointer (some ⟨wb, 0, none⟩), ek k] X fun e Y => e = .returned (.bool (fm mw k).isSome) ∧ Pl B N Y wb mb lv most nw (mw.filter fun x => x.1 ≠ k) nm mm ∧ Fo B N X Y := by
  have hn := h.w.nd
  obtain ⟨S, q, hs⟩ := h.w
  refine (cut_any q (ls_fm hn) hk).mono ?_
  rintro e Y ⟨rfl, S', q', hs', fr⟩
  have := h.act (Y := Y) ⟨S', q', fun x hx => hs x (hs' x hx)⟩ (fr.mono fun x _ hx => hs x hx)
  exact ⟨rfl, this.1, this.2⟩
theorem Pl.turn (h : Pl B N X wb mb lv most nw mw nm mm) (hB : B ≤ X.heap.size) (hN : ∀ x, N x → x < X.heap.size) (hm : mw.length ≤ 400000) {to : Int} (hto : Tk to) (hle : nw ≤ to) : Calls Try.prog 20 #[.pointer (some ⟨wb, 0, none⟩), .int .i64 to] X fun e Y =>
    ∃ v ls, e = .returned (.tuple #[v, .int .i64 0]) ∧ ls.Perm (mw.filter fun x => decide (x.2 ≤ to)) ∧ Srt ls ∧ Src Y v ls ∧ (∀ x, Sb v x → X.heap.size ≤ x ∧ x < Y.heap.size) ∧ Pl B N Y wb mb lv most to (mw.filter fun x => decide (to < x.2)) nm mm ∧ Fo B N X Y := by
  refine (h.w.turn hB (h.nlt hN) hm hto hle).mono ?_
  rintro e Y ⟨v, ls, rfl, h1, h2, h3, h4, h5, h6⟩
  have := h.act (h5.less fun x e => .inl e) h6
  exact ⟨v, ls, rfl, h1, h2, h3, h4, this.1, this.2⟩
theorem Pl.turnNo (h : Pl B N X wb mb lv most nw mw nm mm) {to : Int} (hto : to < nw ∨ MT < to) : Calls Try.prog 20 #[.pointer (some ⟨wb, 0, none⟩), .int .i64 to] X fun e Y => e = .returned (.tuple #[.slice none 0 0, .int .i64 3]) ∧ Y = X := by
  obtain ⟨S, q, _⟩ := h.w
  exact turn_range q hto
theorem Pl.copy (h : Pl B N X wb mb lv most nw mw nm mm) (hm : mw.length ≤ 400000) : Calls Try.prog 22 #[.pointer (some ⟨wb, 0, none⟩)] X fun e Y =>
    ∃ wb2, e = .returned (.pointer (some ⟨wb2, 0, none⟩)) ∧ Ow X.heap.size (fun _ => False) Y wb2 nw most mw ∧ Below X.heap.size X Y := by
  refine (h.w.copy hm).mono ?_
  rintro e Y ⟨wb2, rfl, _, q, b⟩
  exact ⟨wb2, rfl, q, b⟩
end
/-- what an act of the law leaves -/
def Done (B : Nat) (N : Nat → Prop) (X : World) (wb mb most : Nat) (m : List (K × Int)) (e : Ending) (Y : World) : Prop :=
  e = .returned (.bool true) ∧ ∃ lv' now' m', Pl B N Y wb mb lv' most now' m' now' m' ∧ m'.length ≤ m.length + 1 ∧ Fo B N X Y
theorem done_same {B : Nat} {N : Nat → Prop} {X Y : World} {wb mb most : Nat} {lv : Value} {now : Int} {m : List (K × Int)} {e : Ending} (h : Pl B N X wb mb lv most now m now m) (he : e = .returned (.bool true)) (b : Below X.heap.size X Y) : Done B N X wb mb most m e Y :=
  ⟨he, lv, now, m, h.old b, by omega, Fr.of_below b⟩
theorem done_of {B : Nat} {N N' : Nat → Prop} {X V Y : World} {wb mb most : Nat} {lv' : Value} {now' : Int} {m m' : List (K × Int)} {e : Ending} (he : e = .returned (.bool true)) (h : Pl B N' Y wb mb lv' most now' m' now' m') (hN : ∀ x, N x → N' x) (hl : m'.length ≤ m.length + 1)
    (f1 : Fo B N X V) (f2 : Fo B N' V Y) : Done B N X wb mb most m e Y :=
  ⟨he, lv', now', m', h.less hN, hl, f1.trans (f2.less hN)⟩
end Go.Proofs.Ytcafiehlhdoibaa.Wh
