
/- fires: count -/
import Derived.Test.YtheaimlfngaaoaaDoorFi11
namespace Go.Proofs.YtheaimlfngaaoaaDoor.Fi
open Go.RowKit Go.Lib Go.Proofs.YtheaimlfngaaoaaDoor.Cn Go.Proofs.YtheaimlfngaaoaaDoor.Rg Go.Proofs.YtheaimlfngaaoaaDoor.Ht
attribute [local go_sem] Oper.semAt_some
set_option linter.unusedVariables false

/-- the loop's state: so many so far, fewer than most -/
structure CI (w : World) (e : Ex) (a t : Int) (most : Nat) (x : Int) (A : World) : Prop where
  m : A.heap[w.heap.size + 1]? = some (.cells #[.int .i64 (most : Nat)] 3 (0, 0))
  n : A.heap[w.heap.size + 2]? = some (.cells #[.int .i64 (cnt e a x : Nat)] 3 (0, 0))
  lt : cnt e a x < most
  ge : a ≤ x
  le : x = a ∨ x ≤ t
  b : Below w.heap.size w A
/-- how it is left -/
structure CX (w : World) (e : Ex) (a t : Int) (most : Nat) (c : Code) (x : Int) (A : World) : Prop where
  c : c = .exit 0
  n : A.heap[w.heap.size + 2]? = some (.cells #[.int .i64 (most : Nat)] 3 (0, 0))
  ge : most ≤ cnt e a t
  b : Below w.heap.size w A
theorem cnt_end {e : Ex} {a t x : Int} (hx : a ≤ x) (hle : x = a ∨ x ≤ t) (h : BS e t x) : cnt e a t = cnt e a x := by
  by_cases hxt : x ≤ t
  · rw [cnt_add e hx hxt, cnt_none e (fun u h1 h2 => h u h1 h2)]; rfl
  · rcases hle with rfl | h
    · rw [cnt_self e (by omega), cnt_self e (Int.le_refl _)]
    · exact absurd h hxt
theorem one_st {X : World} {B : Nat} {v0 v : Value} {t : TypeId} (h : X.heap[B + 2]? = some (.cells #[v0] t (0, 0))) :
    (X.setCell ⟨B + 1 + 1, 0, none⟩ v).heap[B + 2]? = some (.cells #[v] t (0, 0)) ∧ BelowO (fun k => k = B + 2) X (X.setCell ⟨B + 1 + 1, 0, none⟩ v) :=
  ⟨one_set h v, (BelowO.of (own := fun k => k = B + 2) (Below.refl X.heap.size X)).set (p := ⟨B + 1 + 1, 0, none⟩) rfl v⟩
set_option maxRecDepth 20000 in
set_option maxHeartbeats 8000000 in
theorem count_any (e : Ex) (he : ExOk e) (a t : Int) (most : Nat) (ha : Ca.I64 a) (ht : Ca.I64 t) (hm0 : 0 < most) (hm : most ≤ 9223372036854775807) (w : World) (hd : Db w) :
    Calls Tryd.prog 30 #[exv e, .int .i64 a, .int .i64 t, .int .i64 (most : Nat)] w fun r w' => r = .returned (.int .i64 ((min (cnt e (lo a) (up t)) most : Nat) : Int)) ∧ Below w.heap.size w w' := by
  have hlo : -1 ≤ lo a ∧ lo a ≤ 9223372036854775807 := by unfold lo; unfold Ca.I64 at ha; omega
  have hdlt := hd.lt
  have hup : -9223372036854775808 ≤ up t ∧ up t ≤ 1099511627776 := by unfold up; unfold Ca.I64 at ht; omega
  obtain ⟨V, hV⟩ : ∃ V, V = ((w.alloc (.cells (exC e) 26)).alloc (.cells #[.int .i64 (most : Nat)] 3)).alloc (.cells #[.int .i64 0] 3) := ⟨_, rfl⟩
  have hb : Below w.heap.size w V := by rw [hV]; exact (((Below.refl _ _).alloc (Nat.le_refl _) _).alloc (by simp) _).alloc (by simp; omega) _
  have q0 : V.heap[w.heap.size]? = some (.cells (exC e) 26 (0, 0)) := by
    rw [hV]; exact (Below.heap_alloc _ _ _ (by simp; omega)).trans (two_new w _ 26 #[.int .i64 (most : Nat)] 3).2.1
  have q1 : V.heap[w.heap.size + 1]? = some (.cells #[.int .i64 (most : Nat)] 3 (0, 0)) := by
    rw [hV]; exact (Below.heap_alloc _ _ _ (by simp)).trans (two_new w _ 26 #[.int .i64 (most : Nat)] 3).2.2.1
  have q2 : V.heap[w.heap.size + 2]? = some (.cells #[.int .i64 0] 3 (0, 0)) := by
    have := (two_new (w.alloc (.cells (exC e) 26)) #[.int .i64 (most : Nat)] 3 #[.int .i64 0] 3).2.2.1
    rw [hV]; simpa using this
  have hzV : V.heap.size = w.heap.size + 3 := by rw [hV]; simp
  have hbt := between_any e a t ha ht V (hd.old hb)
  generalize lo a = A0 at hbt hlo ⊢
  generalize up t = T at hbt hup ⊢
  have hc0 : cnt e A0 A0 = 0 := cnt_self e (Int.le_refl _)
  have HV := Lib.hid (And.intro hV (And.intro hb (And.intro q0 (And.intro q1 (And.intro q2 (And.intro hzV (And.intro hbt hc0)))))))
  clear hV hb q0 q1 q2 hzV hbt hd hc0
  obtain ⟨R, hR⟩ : ∃ R, R = min (cnt e A0 T) most := ⟨_, rfl⟩
  rw [← hR]
  have HR := Lib.hid hR
  clear hR
  refine (callsIn_wide (n := 9)).1 ?_
  refine callsIn_of_wp_marks Tryd.func30 rfl trivial ?_ rfl
  simp only [Tryd.ntmps30, List.size_toArray, List.length_cons, List.length_nil, Nat.reduceAdd, Nat.reduceSub, Array.replicate_succ, Array.replicate_zero, List.push_toArray, List.append_toArray, List.nil_append, List.cons_append]
  gi_wp2_with fail
  rw [← HV.out.1]
  refine ⟨trivial, (callsIn_wide.2 HV.out.2.2.2.2.2.2.1).mono ?_⟩
  rintro q w2 ⟨rfl, hb2, hdb⟩
  have hI0 : CI w e A0 T most A0 w2 := ⟨old_blk hb2 HV.out.2.2.2.1, by rw [HV.out.2.2.2.2.2.2.2]; exact old_blk hb2 HV.out.2.2.2.2.1, by rw [HV.out.2.2.2.2.2.2.2]; exact hm0, Int.le_refl _, .inl rfl, HV.out.2.1.trans (hb2.mono HV.out.2.1.size)⟩
  have hz2 : w.heap.size + 3 ≤ w2.heap.size := by have := hb2.size; have := HV.out.2.2.2.2.2.1; omega
  have hzv := HV.out.2.2.2.2.2.1
  have hgd : 1 < w.heap.size := hdlt
  have H2 := Lib.hid (And.intro hdb (And.intro hI0 (And.intro hzv hgd)))
  clear hb2 hdb hI0 hzv hgd
  gi_wp2_with fail
  refine range_int (own := fun k => k = w.heap.size + 2) (box := tbox V.heap.size) (x0 := A0) (G := BG e T) (S := BS e T) rfl (by omega) (gf := 25) (lb := betB V.heap.size) rfl trivial (enters_of Tryd.func25 (by kernel_rfl) rfl)
    (between_iter _ V.heap.size e he A0 T hlo hup w2 H2.out.1) (fun k hk => ⟨fun h => ?hb, by omega⟩) rfl
    (CI w e A0 T most) (CX w e A0 T most) (fun x A A' h hc => ⟨(hc.block _ (by omega)).trans h.m, (hc.block _ (by omega)).trans h.n, h.lt, h.ge, h.le, h.b.trans (hc.mono (by omega))⟩)
    (fun c x A A' h hc => ⟨h.c, (hc.block _ (by omega)).trans h.n, h.ge, h.b.trans (hc.mono (by omega))⟩) H2.out.2.1 ?hround ?hdone ?hstop
  case hb =>
    have h1 := H2.out.2.2.1
    have h2 := H2.out.2.2.2
    rcases h with h | h | h | h <;> omega
  case hround =>
    rintro l x y A hlB ⟨rr, hlr⟩ hzA hI hG
    clear hI hlr
    gi_wp2_with fail
    refine ⟨Below.refl _ _, ?_⟩
    intro A2 hbut _ hI
    obtain ⟨k1, f1⟩ := one_cell hI.m
    obtain ⟨k2, f2⟩ := one_cell hI.n
    have hzA2 := hbut.2.2.2.1
    have l1 : w.heap.size + 1 < A2.heap.size := by omega
    have l2 : w.heap.size + 2 < A2.heap.size := by omega
    have hcn := cnt_next e hG.1 hI.ge
    have hlt := hI.lt
    have HI := Lib.hid (And.intro hI (And.intro hG hcn))
    clear hI hG hbut hzA2 hcn
    generalize cnt e A0 x = c at k2 hlt HI
    by_cases hlast : c + 1 = most
    · gi_wp2_with fail
      obtain ⟨g1, g2⟩ := one_st (v := .int .i64 ((c : Int) + 1)) HI.out.1.n
      generalize A2.setCell ⟨w.heap.size + 1 + 1, 0, none⟩ (.int .i64 ((c : Int) + 1)) = Z at g1 g2 ⊢
      refine ⟨g2.weak (fun k hk => by omega), rfl, ?_, ?_, HI.out.1.b.trans (g2.below HI.out.1.b.size (fun k hk => by omega))⟩
      · rw [g1, ← hlast]; rfl
      · have := cnt_mono e (a := A0) HI.out.2.1.2
        have h9 := HI.out.2.2
        omega
    · gi_wp2_with fail
      obtain ⟨g1, g2⟩ := one_st (v := .int .i64 ((c : Int) + 1)) HI.out.1.n
      generalize A2.setCell ⟨w.heap.size + 1 + 1, 0, none⟩ (.int .i64 ((c : Int) + 1)) = Z at g1 g2 ⊢
      refine ⟨g2, (g2.block _ l1 (by omega)).trans HI.out.1.m, ?_, ?_, ?_, .inr HI.out.2.1.2, HI.out.1.b.trans (g2.below HI.out.1.b.size (fun k hk => by omega))⟩
      · rw [g1, HI.out.2.2]; rfl
      · have h9 := HI.out.2.2; omega
      · have := HI.out.2.1.1.1; have := HI.out.1.ge; omega
  case hdone =>
    intro D x X hD hS hI hK
    dsimp only
    obtain ⟨k2, f2⟩ := one_cell hI.n
    have HX := Lib.hid (And.intro hS (And.intro hI (And.intro hD hK)))
    clear hS hI hK hD
    gi_wp2_with fail
    have hDz := HX.out.2.2.1
    have hbut := but_put D X (.deferred none)
    have hRe : R = cnt e A0 x := by rw [HR.out, cnt_end HX.out.2.1.ge HX.out.2.1.le HX.out.1]; have := HX.out.2.1.lt; omega
    refine leaveD HX.out.2.2.2 (results_tmp rfl _ _ _) ⟨by rw [hRe]; rfl, HX.out.2.1.b.trans (hbut.below (by omega))⟩
  case hstop =>
    rintro D c x X hD h hK
    obtain rfl := h.c
    obtain ⟨k2, f2⟩ := one_cell h.n
    have HX := Lib.hid (And.intro h (And.intro hD hK))
    clear h hK hD
    gi_wp2_with fail
    have hDz := HX.out.2.1
    have hbut := but_put D X (.deferred none)
    have hRe : R = most := by rw [HR.out]; have := HX.out.1.ge; omega
    refine leaveD HX.out.2.2 (results_tmp rfl _ _ _) ⟨by rw [hRe]; rfl, HX.out.1.b.trans (hbut.below (by omega))⟩
end Go.Proofs.YtheaimlfngaaoaaDoor.Fi
