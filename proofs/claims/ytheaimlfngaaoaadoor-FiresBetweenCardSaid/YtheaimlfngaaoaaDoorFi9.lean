
/- fires: Next -/
import Derived.Test.YtheaimlfngaaoaaDoorFi8
namespace Go.Proofs.YtheaimlfngaaoaaDoor.Fi
open Go.RowKit Go.Lib Go.Proofs.YtheaimlfngaaoaaDoor.Cn Go.Proofs.YtheaimlfngaaoaaDoor.Rg Go.Proofs.YtheaimlfngaaoaaDoor.Ht
attribute [local go_sem] Oper.semAt_some
set_option linter.unusedVariables false

/-- what Next tells -/
def NextIs (e : Ex) (s x : Int) (ok : Bool) : Prop := (ok = true ∧ nx e s x ∧ x ≤ 1099511627776) ∨ (ok = false ∧ x = 0 ∧ BS e 1099511627776 s)
theorem NextIs.same {e : Ex} {s x y : Int} {p q : Bool} (h : NextIs e s x p) (k : NextIs e s y q) : x = y ∧ p = q := by
  rcases h with ⟨rfl, h1, h2⟩ | ⟨rfl, rfl, h1⟩ <;> rcases k with ⟨rfl, k1, k2⟩ | ⟨rfl, rfl, k1⟩
  · exact ⟨nx_same h1 k1, rfl⟩
  · exact absurd h1.2.1 (k1 x h1.1 h2)
  · exact absurd k1.2.1 (h1 y k1.1 k2)
  · exact ⟨rfl, rfl⟩
theorem load_i64 {W : World} {b : Nat} {v : Value} (h : W.cell? ⟨b, 0, none⟩ = some v) : (loadVar 2 ⟨b, 0, none⟩).run Tryd.prog W = .ok v W := by go_simp
theorem load_bool {W : World} {b : Nat} {v : Value} (h : W.cell? ⟨b, 0, none⟩ = some v) : (loadVar 4 ⟨b, 0, none⟩).run Tryd.prog W = .ok v W := by go_simp
theorem results_ib {fn : Func} {tmps : Array Value} {r1 r2 b1 b2 : Nat} {X : World} {v1 v2 : Value}
    (hres : fn.results = #[.cell r1 2, .cell r2 4]) (ht1 : tmps.getD r1 undef = .pointer (some ⟨b1, 0, none⟩)) (ht2 : tmps.getD r2 undef = .pointer (some ⟨b2, 0, none⟩))
    (h1 : X.heap[b1]? = some (.cells #[v1] 2 (0, 0))) (h2 : X.heap[b2]? = some (.cells #[v2] 4 (0, 0))) : (results fn tmps).run Tryd.prog X = .ok (.tuple #[v1, v2]) X := by
  have e1 := load_i64 (one_cell h1).1
  have e2 := load_bool (one_cell h2).1
  have ht1' : tmps[r1]?.getD undef = .pointer (some ⟨b1, 0, none⟩) := by simpa using ht1
  have ht2' : tmps[r2]?.getD undef = .pointer (some ⟨b2, 0, none⟩) := by simpa using ht2
  simp only [results, hres]
  simp [ht1', ht2', Result.andThen, asAddr, e1, e2]
theorem up_max : up 1099511627776 = 1099511627776 := by decide
theorem two_st {X : World} {B : Nat} {v0 u0 v u : Value} {t1 t2 : TypeId} (h1 : X.heap[B + 1]? = some (.cells #[v0] t1 (0, 0))) (h2 : X.heap[B + 2]? = some (.cells #[u0] t2 (0, 0))) :
    ((X.setCell ⟨B + 1, 0, none⟩ v).setCell ⟨B + 1 + 1, 0, none⟩ u).heap[B + 1]? = some (.cells #[v] t1 (0, 0)) ∧ ((X.setCell ⟨B + 1, 0, none⟩ v).setCell ⟨B + 1 + 1, 0, none⟩ u).heap[B + 2]? = some (.cells #[u] t2 (0, 0)) ∧
    Below B X ((X.setCell ⟨B + 1, 0, none⟩ v).setCell ⟨B + 1 + 1, 0, none⟩ u) ∧ ∀ k, B + 2 < k → ((X.setCell ⟨B + 1, 0, none⟩ v).setCell ⟨B + 1 + 1, 0, none⟩ u).heap[k]? = X.heap[k]? := by
  refine ⟨?_, ?_, (((⟨rfl, rfl, rfl, Nat.le_refl _, fun _ _ => rfl⟩ : Below B X X)).setCell (p := ⟨B + 1, 0, none⟩) (Nat.le_succ _) _).setCell (p := ⟨B + 1 + 1, 0, none⟩) (by simp; omega) _, fun k hk => ?_⟩
  · rw [heap_setCell_other _ _ _ _ (by simp)]; exact one_set h1 v
  · exact one_set ((heap_setCell_other _ _ _ _ (by simp)).trans h2) u
  · rw [heap_setCell_other _ _ _ _ (by simp; omega), heap_setCell_other _ _ _ _ (by simp; omega)]
/-- the loop's state, and how it is left -/
structure NI (w : World) (s x : Int) (A : World) : Prop where
  x : x = s
  r1 : A.heap[w.heap.size + 1]? = some (.cells #[.int .i64 0] 2 (0, 0))
  r2 : A.heap[w.heap.size + 2]? = some (.cells #[.bool false] 4 (0, 0))
  b : Below w.heap.size w A
structure NX (w : World) (e : Ex) (s : Int) (c : Code) (x : Int) (A : World) : Prop where
  c : c = .ret
  g : BG e 1099511627776 s x
  r1 : A.heap[w.heap.size + 1]? = some (.cells #[.int .i64 x] 2 (0, 0))
  r2 : A.heap[w.heap.size + 2]? = some (.cells #[.bool true] 4 (0, 0))
  b : Below w.heap.size w A
set_option maxRecDepth 20000 in
set_option maxHeartbeats 8000000 in
theorem next_any (e : Ex) (he : ExOk e) (a : Int) (ha : Ca.I64 a) (w : World) (hd : Db w) :
    Calls Tryd.prog 10 #[exv e, .int .i64 a] w fun r w' => (∃ x ok, r = .returned (.tuple #[.int .i64 x, .bool ok]) ∧ NextIs e (lo a) x ok) ∧ Below w.heap.size w w' := by
  have hlo : -1 ≤ lo a ∧ lo a ≤ 9223372036854775807 := by unfold lo; unfold Ca.I64 at ha; omega
  obtain ⟨V, hV⟩ : ∃ V, V = ((w.alloc (.cells (exC e) 26)).alloc (.cells #[.int .i64 0] 2)).alloc (.cells #[.bool false] 4) := ⟨_, rfl⟩
  have hb : Below w.heap.size w V := by rw [hV]; exact (((Below.refl _ _).alloc (Nat.le_refl _) _).alloc (by simp) _).alloc (by simp; omega) _
  have q0 : V.heap[w.heap.size]? = some (.cells (exC e) 26 (0, 0)) := by
    rw [hV]; exact (Below.heap_alloc _ _ _ (by simp; omega)).trans (two_new w _ 26 #[.int .i64 0] 2).2.1
  have q1 : V.heap[w.heap.size + 1]? = some (.cells #[.int .i64 0] 2 (0, 0)) := by
    rw [hV]; exact (Below.heap_alloc _ _ _ (by simp)).trans (two_new w _ 26 #[.int .i64 0] 2).2.2.1
  have q2 : V.heap[w.heap.size + 2]? = some (.cells #[.bool false] 4 (0, 0)) := by
    have := (two_new (w.alloc (.cells (exC e) 26)) #[.int .i64 0] 2 #[.bool false] 4).2.2.1
    rw [hV]; simpa using this
  have hzV : V.heap.size = w.heap.size + 3 := by rw [hV]; simp
  have hbt := between_any e a 1099511627776 ha (by unfold Ca.I64; omega) V (hd.old hb)
  rw [up_max] at hbt
  have HV := Lib.hid (And.intro hV (And.intro hb (And.intro q0 (And.intro q1 (And.intro q2 (And.intro hzV (And.intro hbt (hd.old hb))))))))
  clear hV hb q0 q1 q2 hzV hbt hd
  refine (callsIn_wide (n := 9)).1 ?_
  refine callsIn_of_wp_marks Tryd.func10 rfl trivial ?_ rfl
  simp only [Tryd.ntmps10, List.size_toArray, List.length_cons, List.length_nil, Nat.reduceAdd, Nat.reduceSub, Array.replicate_succ, Array.replicate_zero, List.push_toArray, List.append_toArray, List.nil_append, List.cons_append]
  gi_wp2_with fail
  rw [← HV.out.1]
  refine ⟨trivial, (callsIn_wide.2 HV.out.2.2.2.2.2.2.1).mono ?_⟩
  rintro q w2 ⟨rfl, hb2, hdb⟩
  have hI0 : NI w (lo a) (lo a) w2 := ⟨rfl, old_blk hb2 HV.out.2.2.2.1, old_blk hb2 HV.out.2.2.2.2.1, HV.out.2.1.trans (hb2.mono HV.out.2.1.size)⟩
  have hz2 : w.heap.size + 3 ≤ w2.heap.size := by have := hb2.size; have := HV.out.2.2.2.2.2.1; omega
  have H2 := Lib.hid (And.intro hdb hI0)
  clear hb2 hdb hI0
  gi_wp2_with fail
  refine range_int (own := fun _ => False) (box := tbox V.heap.size) (x0 := lo a) (G := BG e 1099511627776) (S := BS e 1099511627776) rfl (by omega) (gf := 25) (lb := betB V.heap.size) rfl trivial (enters_of Tryd.func25 (by kernel_rfl) rfl)
    (between_iter _ V.heap.size e he (lo a) 1099511627776 hlo ⟨by omega, by omega⟩ w2 H2.out.1) (fun k hk => hk.elim) rfl
    (NI w (lo a)) (NX w e (lo a)) (fun x A A' h hc => ⟨h.x, (hc.block _ (by omega)).trans h.r1, (hc.block _ (by omega)).trans h.r2, h.b.trans (hc.mono (by omega))⟩)
    (fun c x A A' h hc => ⟨h.c, h.g, (hc.block _ (by omega)).trans h.r1, (hc.block _ (by omega)).trans h.r2, h.b.trans (hc.mono (by omega))⟩) H2.out.2 ?hround ?hdone ?hstop
  case hround =>
    rintro l x y A hlB ⟨rr, hlr⟩ hzA hI hG
    clear hI hlr
    gi_wp2_with fail
    refine ⟨Below.refl _ _, ?_⟩
    intro A2 hbut _ hI
    obtain ⟨k1, f1⟩ := one_cell hI.r1
    obtain ⟨k2, f2⟩ := one_cell hI.r2
    have hzA2 := hbut.2.2.2.1
    have l1 : w.heap.size + 1 < A2.heap.size := by omega
    have l2 : w.heap.size + 2 < A2.heap.size := by omega
    have HI := Lib.hid (And.intro hI hG)
    clear hI hG hbut hzA2
    gi_wp2_with fail
    obtain ⟨g1, g2, g3, g4⟩ := two_st (v := .int .i64 y) (u := .bool true) HI.out.1.r1 HI.out.1.r2
    refine ⟨⟨g3.os, g3.tape, g3.output, g3.size, fun k _ hk => g4 k (by omega)⟩, rfl, ?_, g1, g2, HI.out.1.b.trans g3⟩
    have hx := HI.out.1.x
    rw [← hx]; exact HI.out.2
  case hdone =>
    intro D x X hD hS hI hK
    dsimp only
    obtain ⟨k1, f1⟩ := one_cell hI.r1
    obtain ⟨k2, f2⟩ := one_cell hI.r2
    have HX := Lib.hid (And.intro hS (And.intro hI (And.intro hD hK)))
    have l1 : w.heap.size + 1 < X.heap.size := (Array.getElem?_eq_some_iff.1 hI.r1).1
    have l2 : w.heap.size + 2 < X.heap.size := (Array.getElem?_eq_some_iff.1 hI.r2).1
    clear hS hI hK hD
    gi_wp2_with fail
    obtain ⟨g1, g2, g3, g4⟩ := two_st (v := .int .i64 0) (u := .bool false) HX.out.2.1.r1 HX.out.2.1.r2
    have hDz := HX.out.2.2.1
    generalize (X.setCell ⟨w.heap.size + 1, 0, none⟩ (.int .i64 0)).setCell ⟨w.heap.size + 1 + 1, 0, none⟩ (.bool false) = Z at g1 g2 g3 g4 ⊢
    have hbut := but_put D Z (.deferred none)
    refine leaveD ((g4 D (by omega)).trans HX.out.2.2.2) (results_ib (fn := Tryd.f10) rfl rfl rfl ((hbut.2.2.2.2 _ (by omega)).trans g1) ((hbut.2.2.2.2 _ (by omega)).trans g2)) ⟨⟨0, false, rfl, .inr ⟨rfl, rfl, ?_⟩⟩, ?_⟩
    · have hx := HX.out.2.1.x
      rw [← hx]; exact HX.out.1
    · exact (HX.out.2.1.b.trans g3).trans (hbut.below (by omega))
  case hstop =>
    rintro D c x X hD h hK
    obtain rfl := h.c
    have HX := Lib.hid (And.intro h (And.intro hD hK))
    clear h hK hD
    gi_wp2_with fail
    have hDz := HX.out.2.1
    have hbut := but_put D X (.deferred none)
    exact leaveD HX.out.2.2 (results_ib (fn := Tryd.f10) rfl rfl rfl ((hbut.2.2.2.2 _ (by omega)).trans HX.out.1.r1) ((hbut.2.2.2.2 _ (by omega)).trans HX.out.1.r2)) ⟨⟨x, true, rfl, .inl ⟨rfl, HX.out.1.g⟩⟩, HX.out.1.b.trans (hbut.below (by omega))⟩
end Go.Proofs.YtheaimlfngaaoaaDoor.Fi
