
/- specs: compared -/
import Derived.Test.YtjbfiblgkdedgaaSp3
import Derived.Test.YtjbfiblgkdedgaaSpLib
import Derived.Deep.LoopGhost
namespace Go.Proofs.Ytjbfiblgkdedgaa.Sp
open Go.RowKit Go.Lib Rf By
set_option linter.unusedVariables false
set_option maxRecDepth 20000
set_option maxHeartbeats 2000000 in
theorem equal_ds {a b : Option Addr} {n c m d : Nat} {xs ys : List ByteArray} {w : World} (hx : Dp w a n xs) (hy : Dp w b m ys) (hn : n ≤ maxLen) (hm : m ≤ maxLen) :
    Calls Try.prog 16 #[.slice a n c, .slice b m d] w fun e w' => e = .returned (.bool (decide (xs = ys))) ∧ ∃ q, w' = w.drewN q := by
  unfold maxLen at hn hm
  by_cases hnm : n = m
  · subst hnm
    by_cases h0 : n = 0
    · subst h0
      obtain rfl : xs = [] := List.length_eq_zero_iff.1 hx.1
      obtain rfl : ys = [] := List.length_eq_zero_iff.1 hy.1
      clear hx hy hn hm
      go_enter Try.func16, Try.ntmps16
      go_wp2
      go_loopg [13] 0 (fun _ s13 wr => s13 = .int .i64 0 ∧ wr = w)
      case atStart => exact ⟨rfl, rfl⟩
      case round =>
        obtain ⟨rfl, rfl⟩ := hrel
        go_wp2
        go_ret
        exact ⟨rfl, 0, rfl⟩
    · rcases hx.2.2 with h | ⟨b1, o1, rfl, hc1⟩
      · exact absurd h h0
      rcases hy.2.2 with h | ⟨b2, o2, rfl, hc2⟩
      · exact absurd h h0
      have h := Try.slices_Equal_string b1 o1 n c b2 o2 n d xs ys w (Nat.le_of_eq hx.1.symm) (Nat.le_of_eq hy.1.symm) (by omega) (by omega) (fun j hj => by rw [hc1 j hj]; simp [List.getD, hj]) (fun j hj => by rw [hc2 j hj]; simp [List.getD, hj])
      rw [List.take_of_length_le (Nat.le_of_eq hx.1), List.take_of_length_le (Nat.le_of_eq hy.1)] at h
      exact h
  · have e : ¬ xs = ys := fun e => hnm (by rw [← hx.1, ← hy.1, e])
    rw [decide_eq_false e]
    have hnm' : ¬ (n : Int) = (m : Int) := by omega
    clear hx hy e
    go_enter Try.func16, Try.ntmps16
    go_wp2
    go_ret
    exact ⟨rfl, 0, rfl⟩
theorem toList_inj {a b : ByteArray} (h : a.toList = b.toList) : a = b := by
  rw [ByteArray.toList_eq, ByteArray.toList_eq] at h
  exact ByteArray.ext (Array.toList_inj.1 h)
open Classical in
/-- are they the same? -/
noncomputable def sm (x y : Spc) : Bool := decide (x.eqv y)
open Classical in
theorem sm_no {x y : Spc} (h : ¬ x.eqv y) : sm x y = false := by unfold sm; exact decide_eq_false h
open Classical in
theorem sm_yes {x y : Spc} (h : x.eqv y) : sm x y = true := by unfold sm; exact decide_eq_true h
open Classical in
theorem sm_iff {x y : Spc} : sm x y = true ↔ x.eqv y := by unfold sm; exact decide_eq_true_iff
set_option maxHeartbeats 8000000 in
theorem Same_any (x y : Spc) {w : World} (hx : Dp w x.a x.n x.ds) (hy : Dp w y.a y.n y.ds) (hn : x.n ≤ maxLen) (hm : y.n ≤ maxLen) :
    Calls Try.prog 9 #[.agg x.cells, .agg y.cells] w fun e w' => e = .returned (.bool (sm x y)) ∧ Below w.heap.size w w' := by
  obtain ⟨nm0, tn0, pr0, dl0, a0, n0, c0, ds0, bs0, cp0, at0, ls0, cr0, ct0⟩ := x
  obtain ⟨nm1, tn1, pr1, dl1, a1, n1, c1, ds1, bs1, cp1, at1, ls1, cr1, ct1⟩ := y
  simp only at hx hy hn hm
  obtain ⟨V, hV⟩ : ∃ V, V = (w.alloc (.cells #[.string nm0, .string tn0, .int .i64 pr0, .int .i64 dl0, .slice a0 n0 c0, .int .i64 bs0, .int .i64 cp0, .int .i64 at0, .int .i64 ls0, .string cr0, .int .i64 ct0] 24)).alloc (.cells #[.string nm1, .string tn1, .int .i64 pr1, .int .i64 dl1, .slice a1 n1 c1, .int .i64 bs1, .int .i64 cp1, .int .i64 at1, .int .i64 ls1, .string cr1, .int .i64 ct1] 24) := ⟨_, rfl⟩
  have hb1 : Below w.heap.size w V := by rw [hV]; exact ((Below.refl _ w).alloc (Nat.le_refl _) _).alloc (by simp) _
  have hx0 : V.heap[w.heap.size]? = some (.cells #[.string nm0, .string tn0, .int .i64 pr0, .int .i64 dl0, .slice a0 n0 c0, .int .i64 bs0, .int .i64 cp0, .int .i64 at0, .int .i64 ls0, .string cr0, .int .i64 ct0] 24 (0, 0)) := by rw [hV]; exact ((Below.refl _ _).alloc (Nat.le_refl _) _ |>.block _ (by simp)).trans (MapKept.heap_alloc w _).1
  have hx1 : V.heap[w.heap.size + 1]? = some (.cells #[.string nm1, .string tn1, .int .i64 pr1, .int .i64 dl1, .slice a1 n1 c1, .int .i64 bs1, .int .i64 cp1, .int .i64 at1, .int .i64 ls1, .string cr1, .int .i64 ct1] 24 (0, 0)) := by
    rw [hV]
    have h := (MapKept.heap_alloc (w.alloc (.cells #[.string nm0, .string tn0, .int .i64 pr0, .int .i64 dl0, .slice a0 n0 c0, .int .i64 bs0, .int .i64 cp0, .int .i64 at0, .int .i64 ls0, .string cr0, .int .i64 ct0] 24)) (.cells #[.string nm1, .string tn1, .int .i64 pr1, .int .i64 dl1, .slice a1 n1 c1, .int .i64 bs1, .int .i64 cp1, .int .i64 at1, .int .i64 ls1, .string cr1, .int .i64 ct1] 24)).1
    rwa [World.size_alloc] at h
  obtain ⟨⟨l0, l1, l2, l3, l4, l5, l6, l7, l8, l9, l10⟩, _⟩ := eleven hx0
  obtain ⟨⟨r0, r1, r2, r3, r4, r5, r6, r7, r8, r9, r10⟩, _⟩ := eleven hx1
  have HE := Lib.hid (equal_ds (c := c0) (d := c1) (hx.old hb1) (hy.old hb1) hn hm)
  have HB := Lib.hid hb1
  have HV := Lib.hid hV
  clear hx0 hx1 hb1 hx hy hn hm hV
  unfold Spc.cells
  simp only
  by_cases e0 : ¬ nm0 = nm1
  · skip
    have i0 : ¬ nm0.toList = nm1.toList := fun h => e0 (toList_inj h)
    rw [sm_no (fun h : Spc.eqv ⟨nm0, tn0, pr0, dl0, a0, n0, c0, ds0, bs0, cp0, at0, ls0, cr0, ct0⟩ ⟨nm1, tn1, pr1, dl1, a1, n1, c1, ds1, bs1, cp1, at1, ls1, cr1, ct1⟩ => e0 (by obtain ⟨z0, z1, z2, z3, z4, z5, z6, z7, z8, z9, z10⟩ := h; exact z0))]
    clear e0
    go_enter Try.func9, Try.ntmps9
    go_wp2_with fail
    rw [← HV.out]
    go_ret
    exact ⟨rfl, HB.out⟩
  have e0 := Classical.not_not.1 e0
  subst e0
  by_cases e1 : ¬ tn0 = tn1
  · skip
    have i1 : ¬ tn0.toList = tn1.toList := fun h => e1 (toList_inj h)
    rw [sm_no (fun h : Spc.eqv ⟨nm0, tn0, pr0, dl0, a0, n0, c0, ds0, bs0, cp0, at0, ls0, cr0, ct0⟩ ⟨nm0, tn1, pr1, dl1, a1, n1, c1, ds1, bs1, cp1, at1, ls1, cr1, ct1⟩ => e1 (by obtain ⟨z0, z1, z2, z3, z4, z5, z6, z7, z8, z9, z10⟩ := h; exact z1))]
    clear e1
    go_enter Try.func9, Try.ntmps9
    go_wp2_with fail
    rw [← HV.out]
    go_ret
    exact ⟨rfl, HB.out⟩
  have e1 := Classical.not_not.1 e1
  subst e1
  by_cases e2 : ¬ pr0 = pr1
  · skip
    have i2 : ¬ pr0 = pr1 := e2
    rw [sm_no (fun h : Spc.eqv ⟨nm0, tn0, pr0, dl0, a0, n0, c0, ds0, bs0, cp0, at0, ls0, cr0, ct0⟩ ⟨nm0, tn0, pr1, dl1, a1, n1, c1, ds1, bs1, cp1, at1, ls1, cr1, ct1⟩ => e2 (by obtain ⟨z0, z1, z2, z3, z4, z5, z6, z7, z8, z9, z10⟩ := h; exact z2))]
    clear e2
    go_enter Try.func9, Try.ntmps9
    go_wp2_with fail
    rw [← HV.out]
    go_ret
    exact ⟨rfl, HB.out⟩
  have e2 := Classical.not_not.1 e2
  subst e2
  by_cases e3 : ¬ dl0 = dl1
  · skip
    have i3 : ¬ dl0 = dl1 := e3
    rw [sm_no (fun h : Spc.eqv ⟨nm0, tn0, pr0, dl0, a0, n0, c0, ds0, bs0, cp0, at0, ls0, cr0, ct0⟩ ⟨nm0, tn0, pr0, dl1, a1, n1, c1, ds1, bs1, cp1, at1, ls1, cr1, ct1⟩ => e3 (by obtain ⟨z0, z1, z2, z3, z4, z5, z6, z7, z8, z9, z10⟩ := h; exact z3))]
    clear e3
    go_enter Try.func9, Try.ntmps9
    go_wp2_with fail
    rw [← HV.out]
    go_ret
    exact ⟨rfl, HB.out⟩
  have e3 := Classical.not_not.1 e3
  subst e3
  by_cases e4 : ¬ ds0 = ds1
  · skip
    rw [decide_eq_false e4] at HE
    rw [sm_no (fun h : Spc.eqv ⟨nm0, tn0, pr0, dl0, a0, n0, c0, ds0, bs0, cp0, at0, ls0, cr0, ct0⟩ ⟨nm0, tn0, pr0, dl0, a1, n1, c1, ds1, bs1, cp1, at1, ls1, cr1, ct1⟩ => e4 (by obtain ⟨z0, z1, z2, z3, z4, z5, z6, z7, z8, z9, z10⟩ := h; exact z4))]
    clear e4
    go_enter Try.func9, Try.ntmps9
    go_wp2_with fail
    rw [← HV.out]
    refine HE.out.mono ?_
    rintro e w1 ⟨rfl, q, rfl⟩
    have l5 : (V.drewN q).cell? ⟨w.heap.size, 5, none⟩ = _ := l5
    have r5 : (V.drewN q).cell? ⟨w.heap.size + 1, 5, none⟩ = _ := r5
    have l6 : (V.drewN q).cell? ⟨w.heap.size, 6, none⟩ = _ := l6
    have r6 : (V.drewN q).cell? ⟨w.heap.size + 1, 6, none⟩ = _ := r6
    have l7 : (V.drewN q).cell? ⟨w.heap.size, 7, none⟩ = _ := l7
    have r7 : (V.drewN q).cell? ⟨w.heap.size + 1, 7, none⟩ = _ := r7
    have l8 : (V.drewN q).cell? ⟨w.heap.size, 8, none⟩ = _ := l8
    have r8 : (V.drewN q).cell? ⟨w.heap.size + 1, 8, none⟩ = _ := r8
    have l9 : (V.drewN q).cell? ⟨w.heap.size, 9, none⟩ = _ := l9
    have r9 : (V.drewN q).cell? ⟨w.heap.size + 1, 9, none⟩ = _ := r9
    have l10 : (V.drewN q).cell? ⟨w.heap.size, 10, none⟩ = _ := l10
    have r10 : (V.drewN q).cell? ⟨w.heap.size + 1, 10, none⟩ = _ := r10
    go_wp2_with fail
    go_ret
    exact ⟨rfl, HB.out.trans ⟨rfl, rfl, rfl, Nat.le_refl _, fun _ _ => rfl⟩⟩
  have e4 := Classical.not_not.1 e4
  have HD := Lib.hid e4
  rw [decide_eq_true e4] at HE
  clear e4
  by_cases e5 : ¬ bs0 = bs1
  · skip
    have i5 : ¬ bs0 = bs1 := e5
    rw [sm_no (fun h : Spc.eqv ⟨nm0, tn0, pr0, dl0, a0, n0, c0, ds0, bs0, cp0, at0, ls0, cr0, ct0⟩ ⟨nm0, tn0, pr0, dl0, a1, n1, c1, ds1, bs1, cp1, at1, ls1, cr1, ct1⟩ => e5 (by obtain ⟨z0, z1, z2, z3, z4, z5, z6, z7, z8, z9, z10⟩ := h; exact z5))]
    clear e5
    go_enter Try.func9, Try.ntmps9
    go_wp2_with fail
    rw [← HV.out]
    refine HE.out.mono ?_
    rintro e w1 ⟨rfl, q, rfl⟩
    have l5 : (V.drewN q).cell? ⟨w.heap.size, 5, none⟩ = _ := l5
    have r5 : (V.drewN q).cell? ⟨w.heap.size + 1, 5, none⟩ = _ := r5
    have l6 : (V.drewN q).cell? ⟨w.heap.size, 6, none⟩ = _ := l6
    have r6 : (V.drewN q).cell? ⟨w.heap.size + 1, 6, none⟩ = _ := r6
    have l7 : (V.drewN q).cell? ⟨w.heap.size, 7, none⟩ = _ := l7
    have r7 : (V.drewN q).cell? ⟨w.heap.size + 1, 7, none⟩ = _ := r7
    have l8 : (V.drewN q).cell? ⟨w.heap.size, 8, none⟩ = _ := l8
    have r8 : (V.drewN q).cell? ⟨w.heap.size + 1, 8, none⟩ = _ := r8
    have l9 : (V.drewN q).cell? ⟨w.heap.size, 9, none⟩ = _ := l9
    have r9 : (V.drewN q).cell? ⟨w.heap.size + 1, 9, none⟩ = _ := r9
    have l10 : (V.drewN q).cell? ⟨w.heap.size, 10, none⟩ = _ := l10
    have r10 : (V.drewN q).cell? ⟨w.heap.size + 1, 10, none⟩ = _ := r10
    go_wp2_with fail
    go_ret
    exact ⟨rfl, HB.out.trans ⟨rfl, rfl, rfl, Nat.le_refl _, fun _ _ => rfl⟩⟩
  have e5 := Classical.not_not.1 e5
  subst e5
  by_cases e6 : ¬ cp0 = cp1
  · skip
    have i6 : ¬ cp0 = cp1 := e6
    rw [sm_no (fun h : Spc.eqv ⟨nm0, tn0, pr0, dl0, a0, n0, c0, ds0, bs0, cp0, at0, ls0, cr0, ct0⟩ ⟨nm0, tn0, pr0, dl0, a1, n1, c1, ds1, bs0, cp1, at1, ls1, cr1, ct1⟩ => e6 (by obtain ⟨z0, z1, z2, z3, z4, z5, z6, z7, z8, z9, z10⟩ := h; exact z6))]
    clear e6
    go_enter Try.func9, Try.ntmps9
    go_wp2_with fail
    rw [← HV.out]
    refine HE.out.mono ?_
    rintro e w1 ⟨rfl, q, rfl⟩
    have l5 : (V.drewN q).cell? ⟨w.heap.size, 5, none⟩ = _ := l5
    have r5 : (V.drewN q).cell? ⟨w.heap.size + 1, 5, none⟩ = _ := r5
    have l6 : (V.drewN q).cell? ⟨w.heap.size, 6, none⟩ = _ := l6
    have r6 : (V.drewN q).cell? ⟨w.heap.size + 1, 6, none⟩ = _ := r6
    have l7 : (V.drewN q).cell? ⟨w.heap.size, 7, none⟩ = _ := l7
    have r7 : (V.drewN q).cell? ⟨w.heap.size + 1, 7, none⟩ = _ := r7
    have l8 : (V.drewN q).cell? ⟨w.heap.size, 8, none⟩ = _ := l8
    have r8 : (V.drewN q).cell? ⟨w.heap.size + 1, 8, none⟩ = _ := r8
    have l9 : (V.drewN q).cell? ⟨w.heap.size, 9, none⟩ = _ := l9
    have r9 : (V.drewN q).cell? ⟨w.heap.size + 1, 9, none⟩ = _ := r9
    have l10 : (V.drewN q).cell? ⟨w.heap.size, 10, none⟩ = _ := l10
    have r10 : (V.drewN q).cell? ⟨w.heap.size + 1, 10, none⟩ = _ := r10
    go_wp2_with fail
    go_ret
    exact ⟨rfl, HB.out.trans ⟨rfl, rfl, rfl, Nat.le_refl _, fun _ _ => rfl⟩⟩
  have e6 := Classical.not_not.1 e6
  subst e6
  by_cases e7 : ¬ at0 = at1
  · skip
    have i7 : ¬ at0 = at1 := e7
    rw [sm_no (fun h : Spc.eqv ⟨nm0, tn0, pr0, dl0, a0, n0, c0, ds0, bs0, cp0, at0, ls0, cr0, ct0⟩ ⟨nm0, tn0, pr0, dl0, a1, n1, c1, ds1, bs0, cp0, at1, ls1, cr1, ct1⟩ => e7 (by obtain ⟨z0, z1, z2, z3, z4, z5, z6, z7, z8, z9, z10⟩ := h; exact z7))]
    clear e7
    go_enter Try.func9, Try.ntmps9
    go_wp2_with fail
    rw [← HV.out]
    refine HE.out.mono ?_
    rintro e w1 ⟨rfl, q, rfl⟩
    have l5 : (V.drewN q).cell? ⟨w.heap.size, 5, none⟩ = _ := l5
    have r5 : (V.drewN q).cell? ⟨w.heap.size + 1, 5, none⟩ = _ := r5
    have l6 : (V.drewN q).cell? ⟨w.heap.size, 6, none⟩ = _ := l6
    have r6 : (V.drewN q).cell? ⟨w.heap.size + 1, 6, none⟩ = _ := r6
    have l7 : (V.drewN q).cell? ⟨w.heap.size, 7, none⟩ = _ := l7
    have r7 : (V.drewN q).cell? ⟨w.heap.size + 1, 7, none⟩ = _ := r7
    have l8 : (V.drewN q).cell? ⟨w.heap.size, 8, none⟩ = _ := l8
    have r8 : (V.drewN q).cell? ⟨w.heap.size + 1, 8, none⟩ = _ := r8
    have l9 : (V.drewN q).cell? ⟨w.heap.size, 9, none⟩ = _ := l9
    have r9 : (V.drewN q).cell? ⟨w.heap.size + 1, 9, none⟩ = _ := r9
    have l10 : (V.drewN q).cell? ⟨w.heap.size, 10, none⟩ = _ := l10
    have r10 : (V.drewN q).cell? ⟨w.heap.size + 1, 10, none⟩ = _ := r10
    go_wp2_with fail
    go_ret
    exact ⟨rfl, HB.out.trans ⟨rfl, rfl, rfl, Nat.le_refl _, fun _ _ => rfl⟩⟩
  have e7 := Classical.not_not.1 e7
  subst e7
  by_cases e8 : ¬ ls0 = ls1
  · skip
    have i8 : ¬ ls0 = ls1 := e8
    rw [sm_no (fun h : Spc.eqv ⟨nm0, tn0, pr0, dl0, a0, n0, c0, ds0, bs0, cp0, at0, ls0, cr0, ct0⟩ ⟨nm0, tn0, pr0, dl0, a1, n1, c1, ds1, bs0, cp0, at0, ls1, cr1, ct1⟩ => e8 (by obtain ⟨z0, z1, z2, z3, z4, z5, z6, z7, z8, z9, z10⟩ := h; exact z8))]
    clear e8
    go_enter Try.func9, Try.ntmps9
    go_wp2_with fail
    rw [← HV.out]
    refine HE.out.mono ?_
    rintro e w1 ⟨rfl, q, rfl⟩
    have l5 : (V.drewN q).cell? ⟨w.heap.size, 5, none⟩ = _ := l5
    have r5 : (V.drewN q).cell? ⟨w.heap.size + 1, 5, none⟩ = _ := r5
    have l6 : (V.drewN q).cell? ⟨w.heap.size, 6, none⟩ = _ := l6
    have r6 : (V.drewN q).cell? ⟨w.heap.size + 1, 6, none⟩ = _ := r6
    have l7 : (V.drewN q).cell? ⟨w.heap.size, 7, none⟩ = _ := l7
    have r7 : (V.drewN q).cell? ⟨w.heap.size + 1, 7, none⟩ = _ := r7
    have l8 : (V.drewN q).cell? ⟨w.heap.size, 8, none⟩ = _ := l8
    have r8 : (V.drewN q).cell? ⟨w.heap.size + 1, 8, none⟩ = _ := r8
    have l9 : (V.drewN q).cell? ⟨w.heap.size, 9, none⟩ = _ := l9
    have r9 : (V.drewN q).cell? ⟨w.heap.size + 1, 9, none⟩ = _ := r9
    have l10 : (V.drewN q).cell? ⟨w.heap.size, 10, none⟩ = _ := l10
    have r10 : (V.drewN q).cell? ⟨w.heap.size + 1, 10, none⟩ = _ := r10
    go_wp2_with fail
    go_ret
    exact ⟨rfl, HB.out.trans ⟨rfl, rfl, rfl, Nat.le_refl _, fun _ _ => rfl⟩⟩
  have e8 := Classical.not_not.1 e8
  subst e8
  by_cases e9 : ¬ cr0 = cr1
  · skip
    have i9 : ¬ cr0.toList = cr1.toList := fun h => e9 (toList_inj h)
    rw [sm_no (fun h : Spc.eqv ⟨nm0, tn0, pr0, dl0, a0, n0, c0, ds0, bs0, cp0, at0, ls0, cr0, ct0⟩ ⟨nm0, tn0, pr0, dl0, a1, n1, c1, ds1, bs0, cp0, at0, ls0, cr1, ct1⟩ => e9 (by obtain ⟨z0, z1, z2, z3, z4, z5, z6, z7, z8, z9, z10⟩ := h; exact z9))]
    clear e9
    go_enter Try.func9, Try.ntmps9
    go_wp2_with fail
    rw [← HV.out]
    refine HE.out.mono ?_
    rintro e w1 ⟨rfl, q, rfl⟩
    have l5 : (V.drewN q).cell? ⟨w.heap.size, 5, none⟩ = _ := l5
    have r5 : (V.drewN q).cell? ⟨w.heap.size + 1, 5, none⟩ = _ := r5
    have l6 : (V.drewN q).cell? ⟨w.heap.size, 6, none⟩ = _ := l6
    have r6 : (V.drewN q).cell? ⟨w.heap.size + 1, 6, none⟩ = _ := r6
    have l7 : (V.drewN q).cell? ⟨w.heap.size, 7, none⟩ = _ := l7
    have r7 : (V.drewN q).cell? ⟨w.heap.size + 1, 7, none⟩ = _ := r7
    have l8 : (V.drewN q).cell? ⟨w.heap.size, 8, none⟩ = _ := l8
    have r8 : (V.drewN q).cell? ⟨w.heap.size + 1, 8, none⟩ = _ := r8
    have l9 : (V.drewN q).cell? ⟨w.heap.size, 9, none⟩ = _ := l9
    have r9 : (V.drewN q).cell? ⟨w.heap.size + 1, 9, none⟩ = _ := r9
    have l10 : (V.drewN q).cell? ⟨w.heap.size, 10, none⟩ = _ := l10
    have r10 : (V.drewN q).cell? ⟨w.heap.size + 1, 10, none⟩ = _ := r10
    go_wp2_with fail
    go_ret
    exact ⟨rfl, HB.out.trans ⟨rfl, rfl, rfl, Nat.le_refl _, fun _ _ => rfl⟩⟩
  have e9 := Classical.not_not.1 e9
  subst e9
  by_cases e10 : ¬ ct0 = ct1
  · skip
    have i10 : (ct0 == ct1) = false := beq_eq_false_iff_ne.2 e10
    rw [sm_no (fun h : Spc.eqv ⟨nm0, tn0, pr0, dl0, a0, n0, c0, ds0, bs0, cp0, at0, ls0, cr0, ct0⟩ ⟨nm0, tn0, pr0, dl0, a1, n1, c1, ds1, bs0, cp0, at0, ls0, cr0, ct1⟩ => e10 (by obtain ⟨z0, z1, z2, z3, z4, z5, z6, z7, z8, z9, z10⟩ := h; exact z10))]
    clear e10
    go_enter Try.func9, Try.ntmps9
    go_wp2_with fail
    rw [← HV.out]
    refine HE.out.mono ?_
    rintro e w1 ⟨rfl, q, rfl⟩
    have l5 : (V.drewN q).cell? ⟨w.heap.size, 5, none⟩ = _ := l5
    have r5 : (V.drewN q).cell? ⟨w.heap.size + 1, 5, none⟩ = _ := r5
    have l6 : (V.drewN q).cell? ⟨w.heap.size, 6, none⟩ = _ := l6
    have r6 : (V.drewN q).cell? ⟨w.heap.size + 1, 6, none⟩ = _ := r6
    have l7 : (V.drewN q).cell? ⟨w.heap.size, 7, none⟩ = _ := l7
    have r7 : (V.drewN q).cell? ⟨w.heap.size + 1, 7, none⟩ = _ := r7
    have l8 : (V.drewN q).cell? ⟨w.heap.size, 8, none⟩ = _ := l8
    have r8 : (V.drewN q).cell? ⟨w.heap.size + 1, 8, none⟩ = _ := r8
    have l9 : (V.drewN q).cell? ⟨w.heap.size, 9, none⟩ = _ := l9
    have r9 : (V.drewN q).cell? ⟨w.heap.size + 1, 9, none⟩ = _ := r9
    have l10 : (V.drewN q).cell? ⟨w.heap.size, 10, none⟩ = _ := l10
    have r10 : (V.drewN q).cell? ⟨w.heap.size + 1, 10, none⟩ = _ := r10
    go_wp2_with fail
    go_ret
    exact ⟨rfl, HB.out.trans ⟨rfl, rfl, rfl, Nat.le_refl _, fun _ _ => rfl⟩⟩
  have e10 := Classical.not_not.1 e10
  subst e10
  rw [sm_yes (show Spc.eqv ⟨nm0, tn0, pr0, dl0, a0, n0, c0, ds0, bs0, cp0, at0, ls0, cr0, ct0⟩ ⟨nm0, tn0, pr0, dl0, a1, n1, c1, ds1, bs0, cp0, at0, ls0, cr0, ct0⟩ from ⟨rfl, rfl, rfl, rfl, HD.out, rfl, rfl, rfl, rfl, rfl, rfl⟩)]
  go_enter Try.func9, Try.ntmps9
  go_wp2_with fail
  rw [← HV.out]
  refine HE.out.mono ?_
  rintro e w1 ⟨rfl, q, rfl⟩
  have l5 : (V.drewN q).cell? ⟨w.heap.size, 5, none⟩ = _ := l5
  have r5 : (V.drewN q).cell? ⟨w.heap.size + 1, 5, none⟩ = _ := r5
  have l6 : (V.drewN q).cell? ⟨w.heap.size, 6, none⟩ = _ := l6
  have r6 : (V.drewN q).cell? ⟨w.heap.size + 1, 6, none⟩ = _ := r6
  have l7 : (V.drewN q).cell? ⟨w.heap.size, 7, none⟩ = _ := l7
  have r7 : (V.drewN q).cell? ⟨w.heap.size + 1, 7, none⟩ = _ := r7
  have l8 : (V.drewN q).cell? ⟨w.heap.size, 8, none⟩ = _ := l8
  have r8 : (V.drewN q).cell? ⟨w.heap.size + 1, 8, none⟩ = _ := r8
  have l9 : (V.drewN q).cell? ⟨w.heap.size, 9, none⟩ = _ := l9
  have r9 : (V.drewN q).cell? ⟨w.heap.size + 1, 9, none⟩ = _ := r9
  have l10 : (V.drewN q).cell? ⟨w.heap.size, 10, none⟩ = _ := l10
  have r10 : (V.drewN q).cell? ⟨w.heap.size + 1, 10, none⟩ = _ := r10
  go_wp2_with fail
  go_ret
  exact ⟨rfl, HB.out.trans ⟨rfl, rfl, rfl, Nat.le_refl _, fun _ _ => rfl⟩⟩
end Go.Proofs.Ytjbfiblgkdedgaa.Sp
