
/- fires: FiresBetween's walk: what the loop keeps -/
import Derived.Test.YtheaimlfngaaoaaDoorFi13
namespace Go.Proofs.YtheaimlfngaaoaaDoor.Fi
open Go.RowKit Go.Lib Go.Proofs.YtheaimlfngaaoaaDoor.Cn Go.Proofs.YtheaimlfngaaoaaDoor.Rg Go.Proofs.YtheaimlfngaaoaaDoor.Ht
attribute [local go_sem] Oper.semAt_some
set_option linter.unusedVariables false

theorem results_b {fn : Func} {tmps : Array Value} {r b : Nat} {X : World} {v : Value} (hres : fn.results = #[.cell r 4]) (ht : tmps.getD r undef = .pointer (some ⟨b, 0, none⟩)) (h : X.heap[b]? = some (.cells #[v] 4 (0, 0))) :
    (results fn tmps).run Tryd.prog X = .ok v X := by
  have e1 := load_bool (one_cell h).1
  have ht' : tmps[r]?.getD undef = .pointer (some ⟨b, 0, none⟩) := by simpa using ht
  simp only [results, hres]
  simp [ht', asAddr, e1]
theorem leaveB0 {n : Nat} {fn : Func} {tmps : Array Value} {r b : Nat} {X : World} {v : Value} {R : Ending → World → Prop} (hres : fn.results = #[.cell r 4]) (ht : tmps.getD r undef = .pointer (some ⟨b, 0, none⟩)) (h : X.heap[b]? = some (.cells #[v] 4 (0, 0))) (hR : R (.returned v) X) :
    LeavesInM Fence.wide n Tryd.prog fn tmps R [] .returning X := ⟨v, results_b hres ht h, hR⟩
theorem res_st {w X : World} {v0 v : Value} (h : X.heap[w.heap.size + 1]? = some (.cells #[v0] 4 (0, 0))) (hb : Below w.heap.size w X) :
    (X.setCell ⟨w.heap.size + 1, 0, none⟩ v).heap[w.heap.size + 1]? = some (.cells #[v] 4 (0, 0)) ∧ Below w.heap.size w (X.setCell ⟨w.heap.size + 1, 0, none⟩ v) :=
  ⟨one_set h v, hb.setCell (p := ⟨w.heap.size + 1, 0, none⟩) (Nat.le_succ _) v⟩
/-- the loop's state: position x; c the block of the expression -/
structure FI (w : World) (X : Ex) (s0 to T : Int) (c : Nat) (x : Int) (A : World) : Prop where
  t : A.heap[w.heap.size]? = some (.cells #[.int .i64 to] 2 (0, 0))
  r : A.heap[w.heap.size + 1]? = some (.cells #[.bool false] 4 (0, 0))
  e : A.heap[c]? = some (.cells (exC X) 26 (0, 0))
  n : A.heap[c + 1]? = some (.cells #[.int .i64 (cnt X s0 x : Nat)] 3 (0, 0))
  l : ∃ v, lo v = x ∧ Ca.I64 v ∧ A.heap[c + 2]? = some (.cells #[.int .i64 v] 2 (0, 0))
  wh : A.heap[c + 3]? = some (.cells #[.bool true] 4 (0, 0))
  lt : cnt X s0 x < 60
  ge : s0 ≤ x
  le : x = s0 ∨ x ≤ T
  b : Below w.heap.size w A
  d : Db A
/-- how it is left, by a break -/
structure FX (w : World) (X : Ex) (s0 to T : Int) (c : Nat) (k : Code) (x : Int) (A : World) : Prop where
  k : k = .exit 0
  t : A.heap[w.heap.size]? = some (.cells #[.int .i64 to] 2 (0, 0))
  r : A.heap[w.heap.size + 1]? = some (.cells #[.bool false] 4 (0, 0))
  e : A.heap[c]? = some (.cells (exC X) 26 (0, 0))
  n : A.heap[c + 1]? = some (.cells #[.int .i64 60] 3 (0, 0))
  l : ∃ v, Ca.I64 v ∧ A.heap[c + 2]? = some (.cells #[.int .i64 v] 2 (0, 0))
  wh : A.heap[c + 3]? = some (.cells #[.bool false] 4 (0, 0))
  ge : 60 ≤ cnt X s0 T
  b : Below w.heap.size w A
  d : Db A
theorem FI.keep {w : World} {X : Ex} {s0 to T x : Int} {c N : Nat} {A A' : World} (h : FI w X s0 to T c x A) (hb : Below N A A') (h1 : w.heap.size + 1 < N) (h2 : c + 3 < N) (h3 : 1 < N) (h4 : w.heap.size ≤ N) : FI w X s0 to T c x A' := by
  obtain ⟨v, v1, v2, v3⟩ := h.l
  exact ⟨(hb.block _ (by omega)).trans h.t, (hb.block _ (by omega)).trans h.r, (hb.block _ (by omega)).trans h.e, (hb.block _ (by omega)).trans h.n, ⟨v, v1, v2, (hb.block _ (by omega)).trans v3⟩, (hb.block _ (by omega)).trans h.wh, h.lt, h.ge, h.le, h.b.trans (hb.mono h4), h.d.keep (hb.block _ h3)⟩
theorem FX.keep {w : World} {X : Ex} {s0 to T x : Int} {c N : Nat} {k : Code} {A A' : World} (h : FX w X s0 to T c k x A) (hb : Below N A A') (h1 : w.heap.size + 1 < N) (h2 : c + 3 < N) (h3 : 1 < N) (h4 : w.heap.size ≤ N) : FX w X s0 to T c k x A' := by
  obtain ⟨v, v2, v3⟩ := h.l
  exact ⟨h.k, (hb.block _ (by omega)).trans h.t, (hb.block _ (by omega)).trans h.r, (hb.block _ (by omega)).trans h.e, (hb.block _ (by omega)).trans h.n, ⟨v, v2, (hb.block _ (by omega)).trans v3⟩, (hb.block _ (by omega)).trans h.wh, h.ge, h.b.trans (hb.mono h4), h.d.keep (hb.block _ h3)⟩
/-- behind a round -/
theorem FI.next {w : World} {X : Ex} {s0 to T x y : Int} {c : Nat} {A Z : World} (h : FI w X s0 to T c x A) (hx : nx X x y) (hT : y ≤ T) (hT2 : T ≤ 1099511627776) (hc : w.heap.size + 1 < c) (hg : 1 < c) (h59 : cnt X s0 x + 1 < 60)
    (hZ : Z = (A.setCell ⟨c + 1 + 1, 0, none⟩ (.int .i64 y)).setCell ⟨c + 1, 0, none⟩ (.int .i64 ((cnt X s0 x : Nat) + 1))) :
    FI w X s0 to T c y Z ∧ BelowO (fun k => k = c + 1 ∨ k = c + 2) A Z := by
  have h0 := nm_nonneg hx.2.1
  obtain ⟨v, v1, v2, v3⟩ := h.l
  have hb : BelowO (fun k => k = c + 1 ∨ k = c + 2) A Z := by
    rw [hZ]; exact ((BelowO.of (own := fun k => k = c + 1 ∨ k = c + 2) (Below.refl A.heap.size A)).set (p := ⟨c + 1 + 1, 0, none⟩) (.inr rfl) _).set (p := ⟨c + 1, 0, none⟩) (.inl rfl) _
  have hz : c + 3 < A.heap.size := (Array.getElem?_eq_some_iff.1 h.wh).1
  refine ⟨⟨(hb.block _ (by omega) (by omega)).trans h.t, (hb.block _ (by omega) (by omega)).trans h.r, (hb.block _ (by omega) (by omega)).trans h.e, ?_, ⟨y, by rw [lo_id (by omega)], by unfold Ca.I64; omega, ?_⟩, (hb.block _ (by omega) (by omega)).trans h.wh, ?_, ?_, .inr hT,
    h.b.trans (hb.below h.b.size (fun k hk => by omega)), h.d.keep (hb.block _ (by omega) (by omega))⟩, hb⟩
  · rw [cnt_next X hx h.ge, hZ]
    exact one_set ((heap_setCell_other _ _ _ _ (by simp)).trans h.n) _
  · rw [hZ]
    exact (heap_setCell_other _ _ _ _ (by simp)).trans (one_set v3 _)
  · rw [cnt_next X hx h.ge]; exact h59
  · have := hx.1; have := h.ge; omega
theorem FI.stop {w : World} {X : Ex} {s0 to T x y : Int} {c : Nat} {A Z : World} (h : FI w X s0 to T c x A) (hx : nx X x y) (hT : y ≤ T) (hT2 : T ≤ 1099511627776) (hc : w.heap.size + 1 < c) (hg : 1 < c) (h59 : cnt X s0 x + 1 = 60)
    (hZ : Z = ((A.setCell ⟨c + 1 + 1, 0, none⟩ (.int .i64 y)).setCell ⟨c + 1, 0, none⟩ (.int .i64 60)).setCell ⟨c + 1 + 1 + 1, 0, none⟩ (.bool false)) :
    FX w X s0 to T c (.exit 0) y Z ∧ BelowO (fun k => k = c + 1 ∨ k = c + 2 ∨ k = c + 3) A Z := by
  have h0 := nm_nonneg hx.2.1
  obtain ⟨v, v1, v2, v3⟩ := h.l
  have hb : BelowO (fun k => k = c + 1 ∨ k = c + 2 ∨ k = c + 3) A Z := by
    rw [hZ]; exact (((BelowO.of (own := fun k => k = c + 1 ∨ k = c + 2 ∨ k = c + 3) (Below.refl A.heap.size A)).set (p := ⟨c + 1 + 1, 0, none⟩) (.inr (.inl rfl)) _).set (p := ⟨c + 1, 0, none⟩) (.inl rfl) _).set (p := ⟨c + 1 + 1 + 1, 0, none⟩) (.inr (.inr rfl)) _
  have hz : c + 3 < A.heap.size := (Array.getElem?_eq_some_iff.1 h.wh).1
  refine ⟨⟨rfl, (hb.block _ (by omega) (by omega)).trans h.t, (hb.block _ (by omega) (by omega)).trans h.r, (hb.block _ (by omega) (by omega)).trans h.e, ?_, ⟨y, by unfold Ca.I64; omega, ?_⟩, ?_, ?_,
    h.b.trans (hb.below h.b.size (fun k hk => by omega)), h.d.keep (hb.block _ (by omega) (by omega))⟩, hb⟩
  · rw [hZ]
    exact (heap_setCell_other _ _ _ _ (by simp)).trans (one_set ((heap_setCell_other _ _ _ _ (by simp)).trans h.n) _)
  · rw [hZ]
    exact (heap_setCell_other _ _ _ _ (by simp)).trans ((heap_setCell_other _ _ _ _ (by simp)).trans (one_set v3 _))
  · rw [hZ]
    exact one_set ((heap_setCell_other _ _ _ _ (by simp)).trans ((heap_setCell_other _ _ _ _ (by simp)).trans h.wh)) _
  · have h1 := cnt_next X hx h.ge
    have h2 := cnt_mono X (a := s0) hT
    omega
theorem at_yes {X : Ex} (hX : ExOk X) {y : Int} (hn : nm X y) (hy : y ≤ 1099511627776) (w : World) :
    Calls Tryd.prog 14 #[exv X, .int .i64 y] w fun r w' => r = .returned (.bool true) ∧ Below w.heap.size w w' := by
  have h0 := nm_nonneg hn
  refine (at_any X hX y (by unfold Ca.I64; omega) w).mono ?_
  rintro r w' ⟨⟨b, rfl, hb⟩, hbl⟩
  obtain rfl := (at_nm hb).2 ⟨hn, hy⟩
  exact ⟨rfl, hbl⟩
theorem four_new (w : World) (C0 C1 C2 C3 : Array Value) (t0 t1 t2 t3 : TypeId) {V : World} (hV : V = (((w.alloc (.cells C0 t0)).alloc (.cells C1 t1)).alloc (.cells C2 t2)).alloc (.cells C3 t3)) :
    Below w.heap.size w V ∧ V.heap[w.heap.size]? = some (.cells C0 t0 (0, 0)) ∧ V.heap[w.heap.size + 1]? = some (.cells C1 t1 (0, 0)) ∧ V.heap[w.heap.size + 2]? = some (.cells C2 t2 (0, 0)) ∧ V.heap[w.heap.size + 3]? = some (.cells C3 t3 (0, 0)) ∧ V.heap.size = w.heap.size + 4 := by
  obtain ⟨b1, b2, b3, b4⟩ := two_new w C0 t0 C1 t1
  obtain ⟨c1, c2, c3, c4⟩ := two_new ((w.alloc (.cells C0 t0)).alloc (.cells C1 t1)) C2 t2 C3 t3
  rw [b4] at c2 c3 c4
  subst hV
  exact ⟨b1.trans (c1.mono (by omega)), old_blk c1 b2, old_blk c1 b3, c2, c3, by rw [c4]⟩
/-- the last test -/
theorem ctd_same {X : Ex} {a t most : Int} {n : Nat} (h : cnt X (lo a) (up t) = n ∧ n < 60 ∨ 60 ≤ cnt X (lo a) (up t) ∧ n = 60) : ctd X a t (min most 60) = max 0 (min (n : Int) (min most 60)) := by
  unfold ctd
  split
  · omega
  · rcases h with ⟨h1, h2⟩ | ⟨h1, h2⟩
    · rw [h1]; omega
    · omega
end Go.Proofs.YtheaimlfngaaoaaDoor.Fi
