
/- expressions: a field -/
import Derived.Test.YtkkanggkbbmfnaaGreatDoorCn3
import Derived.Test.YtkkanggkbbmfnaaGreatDoorHd
namespace Go.Proofs.YtkkanggkbbmfnaaGreatDoor.Cn
open Go.RowKit Go.Lib Go.Proofs.YtkkanggkbbmfnaaGreatDoor.Rg Go.Proofs.YtkkanggkbbmfnaaGreatDoor.Ht
attribute [local go_sem] Oper.semAt_some
set_option linter.unusedVariables false

theorem load_u64 {W : World} {b : Nat} {v : Value} (h : W.cell? ⟨b, 0, none⟩ = some v) : (loadVar 54 ⟨b, 0, none⟩).run Tryz.prog W = .ok v W := by go_simp
theorem load_errno {W : World} {b : Nat} {v : Value} (h : W.cell? ⟨b, 0, none⟩ = some v) : (loadVar 27 ⟨b, 0, none⟩).run Tryz.prog W = .ok v W := by go_simp
/-- the activation is left by a jump out of a loop: two results in cells -/
theorem leaveC2 {fn : Func} {tmps : Array Value} {N D r1 r2 b1 b2 : Nat} {X : World} {v1 v2 : Value} {R : Ending → World → Prop}
    (hres : fn.results = #[.cell r1 54, .cell r2 27]) (ht1 : tmps.getD r1 undef = .pointer (some ⟨b1, 0, none⟩)) (ht2 : tmps.getD r2 undef = .pointer (some ⟨b2, 0, none⟩))
    (h1 : X.heap[b1]? = some (.cells #[v1] 54 (0, 0))) (h2 : X.heap[b2]? = some (.cells #[v2] 27 (0, 0)))
    (hD : N ≤ D) (h : X.heap[D]? = some (.deferred (some []))) (hR : ∀ X', Calmly N X X' → R (.returned (.tuple #[v1, v2])) X') :
    LeavesInM Fence.wide 3 Tryz.prog fn tmps R [{ target := .collected D, args := #[] }] .returning X := by
  refine ⟨by simp, .inl ⟨D, _, rfl, run_takeDeferred h, ?_⟩⟩
  have hbut := but_put D X (.deferred none)
  refine ⟨.tuple #[v1, v2], ?_, hR _ (Calmly.but' hbut hD h rfl)⟩
  have n1 : b1 ≠ D := fun e => by rw [e, h] at h1; cases h1
  have n2 : b2 ≠ D := fun e => by rw [e, h] at h2; cases h2
  have e1 := load_u64 (one_cell ((hbut.2.2.2.2 b1 n1).trans h1)).1
  have e2 := load_errno (one_cell ((hbut.2.2.2.2 b2 n2).trans h2)).1
  have ht1' : tmps[r1]?.getD undef = .pointer (some ⟨b1, 0, none⟩) := by simpa using ht1
  have ht2' : tmps[r2]?.getD undef = .pointer (some ⟨b2, 0, none⟩) := by simpa using ht2
  simp only [results, hres]
  simp [ht1', ht2', Result.andThen, asAddr, e1, e2]
/-- the field that is read, its results' cells, and its sum so far; the pieces that have come are good -/
structure Fs (w : World) (f : Fd) (ps : List L) (N m : Nat) (W : World) : Prop where
  fd : W.heap[w.heap.size]? = some (.cells #[.int .i64 (f.lo : Nat), .int .i64 (f.hi : Nat), S f.nm] 77 (0, 0))
  r1 : W.heap[w.heap.size + 1]? = some (.cells #[.int .u64 0] 54 (0, 0))
  r2 : W.heap[w.heap.size + 2]? = some (.cells #[.int .i64 0] 27 (0, 0))
  all : W.heap[w.heap.size + 3]? = some (.cells #[.int .u64 (mk (setF f (ps.take m)) : Nat)] 54 (0, 0))
  ok : ∀ p ∈ ps.take m, errP f p = 0
  bel : Below w.heap.size w W
  size : N ≤ W.heap.size
theorem Fs.calm {w : World} {f : Fd} {ps : List L} {N m : Nat} {W W' : World} (h : Fs w f ps N m W) (hN : N = w.heap.size + 7) (hc : CalmO (fun k => k = w.heap.size + 4) N W W') : Fs w f ps N m W' :=
  ⟨hc.cell (by omega) h.fd, hc.cell (by omega) h.r1, hc.cell (by omega) h.r2, hc.cell (by omega) h.all, h.ok,
    h.bel.trans (hc.below (by omega) h.size (fun k hk => by omega)), Nat.le_trans h.size hc.size⟩
/-- a field that is refused -/
structure Fx (w : World) (f : Fd) (ps : List L) (N : Nat) (c : Code) (W : World) : Prop where
  code : c = .ret
  ne : errF f ps ≠ 0
  r1 : W.heap[w.heap.size + 1]? = some (.cells #[.int .u64 0] 54 (0, 0))
  r2 : W.heap[w.heap.size + 2]? = some (.cells #[.int .i64 (errF f ps : Nat)] 27 (0, 0))
  bel : Below w.heap.size w W
  size : N ≤ W.heap.size
theorem Fx.calm {w : World} {f : Fd} {ps : List L} {N : Nat} {c : Code} {W W' : World} (h : Fx w f ps N c W) (hN : N = w.heap.size + 7) (hc : CalmO (fun k => k = w.heap.size + 4) N W W') : Fx w f ps N c W' :=
  ⟨h.code, h.ne, hc.cell (by omega) h.r1, hc.cell (by omega) h.r2, h.bel.trans (hc.below (by omega) h.size (fun k hk => by omega)), Nat.le_trans h.size hc.size⟩
theorem errF_app (f : Fd) (qs : List L) : ∀ ps : List L, (∀ p ∈ ps, errP f p = 0) → errF f (ps ++ qs) = errF f qs
  | [], _ => rfl
  | p :: ps, h => by
    rw [List.cons_append, errF, if_pos (h p List.mem_cons_self)]
    exact errF_app f qs ps fun q hq => h q (List.mem_cons_of_mem _ hq)
theorem errF_at {f : Fd} {ps : List L} {m : Nat} {x : L} (ho : ∀ p ∈ ps.take m, errP f p = 0) (hx : ps[m]? = some x) (he : errP f x ≠ 0) : errF f ps = errP f x := by
  have h1 := errF_app f (ps.drop m) (ps.take m) ho
  rw [List.take_append_drop] at h1
  have h2 : ps.drop m = x :: ps.drop (m + 1) := by
    obtain ⟨hl, hg⟩ := List.getElem?_eq_some_iff.1 hx
    rw [List.drop_eq_getElem_cons hl, hg]
  rw [h1, h2, errF, if_neg he]
theorem errF_ok {f : Fd} {ps : List L} (h : ∀ p ∈ ps, errP f p = 0) : errF f ps = 0 := by
  have := errF_app f [] ps h
  rwa [List.append_nil] at this
theorem setF_snoc (f : Fd) (ps : List L) (m : Nat) (x : L) (hx : ps[m]? = some x) (y : Nat) : setF f (ps.take (m + 1)) y = (setF f (ps.take m) y || inP (readT f x).1 y) := by
  unfold setF
  rw [List.take_add_one, hx]
  simp
theorem take_ok {f : Fd} {ps : List L} {m : Nat} {x : L} (ho : ∀ p ∈ ps.take m, errP f p = 0) (hx : ps[m]? = some x) (he : errP f x = 0) : ∀ p ∈ ps.take (m + 1), errP f p = 0 := by
  intro p hp
  rw [List.take_add_one, hx] at hp
  rcases List.mem_append.1 hp with h | h
  · exact ho p h
  · have : p = x := by simpa using h
    rw [this]; exact he
theorem refuse {w : World} {f : Fd} {ps : List L} {N m : Nat} {A W' : World} {x : L} {e : Nat} (hI : Fs w f ps N m A) (hN : N = w.heap.size + 7) (hx : ps[m]? = some x) (he : errP f x = e) (hne : e ≠ 0)
    (hbo : BelowO (fun k => k = w.heap.size + 1 ∨ k = w.heap.size + 2) A W') (h1 : W'.heap[w.heap.size + 1]? = some (.cells #[.int .u64 0] 54 (0, 0))) (h2 : W'.heap[w.heap.size + 2]? = some (.cells #[.int .i64 (e : Nat)] 27 (0, 0))) :
    KeepsFrom N A W' ∧ Fx w f ps N .ret W' := by
  subst he
  have hE := errF_at hI.ok hx hne
  refine ⟨hbo.keeps (fun k hk => by omega), rfl, by rw [hE]; exact hne, h1, by rw [hE]; exact h2, hI.bel.trans (hbo.below hI.bel.size (fun k hk => by omega)), Nat.le_trans hI.size hbo.size⟩
theorem accept {w : World} {f : Fd} {ps : List L} {N m : Nat} {A W' : World} {x : L} (hI : Fs w f ps N m A) (hN : N = w.heap.size + 7) (hx : ps[m]? = some x) (he : errP f x = 0)
    (hbo : BelowO (fun k => k = w.heap.size + 3) A W') (h3 : W'.heap[w.heap.size + 3]? = some (.cells #[.int .u64 (mk (setF f (ps.take (m + 1))) : Nat)] 54 (0, 0))) :
    KeepsFrom N A W' ∧ Mid w.heap.size (w.heap.size + 4) N A W' ∧ Fs w f ps N (m + 1) W' := by
  have hs := hI.size
  exact ⟨hbo.keeps (fun k hk => by omega), hbo.mid hI.size (fun k hk => by omega), (hbo.block _ (by omega) (by omega)).trans hI.fd, (hbo.block _ (by omega) (by omega)).trans hI.r1, (hbo.block _ (by omega) (by omega)).trans hI.r2, h3,
    take_ok hI.ok hx he, hI.bel.trans (hbo.below hI.bel.size (fun k hk => by omega)), Nat.le_trans hI.size hbo.size⟩
end Go.Proofs.YtkkanggkbbmfnaaGreatDoor.Cn
