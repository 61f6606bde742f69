
/- SpecClones, walked -/
import Derived.Test.YtjbfiblgkdedgaaSpNW
import Derived.Test.YtjbfiblgkdedgaaSp4
import Derived.Test.YtjbfiblgkdedgaaSp5
import Derived.Test.YtjbfiblgkdedgaaSp6
namespace Go.Proofs.Ytjbfiblgkdedgaa.Sp
open Go.RowKit Go.Lib Go.Shelf Rf By Ht
set_option linter.unusedVariables false
set_option maxRecDepth 20000
theorem str_beq (x y : List UInt8) (r : Bool) (h : r = true ↔ x = y) : ((⟨x.toArray⟩ : ByteArray).toList == (⟨y.toArray⟩ : ByteArray).toList) = r := by
  rw [ByteArray.toList_eq, ByteArray.toList_eq]
  show (x == y) = r
  cases r with
  | true => exact beq_iff_eq.2 (h.1 rfl)
  | false => exact beq_eq_false_iff_ne.2 (fun e => by have := h.2 e; cases this)
set_option maxHeartbeats 16000000 in
theorem clones_any (x y : Spc) {w : World} (hx : Dp w x.a x.n x.ds) (hy : Dp w y.a y.n y.ds) (wx : x.wf) (wy : y.wf) (hn : x.n ≤ maxLen) (hm : y.n ≤ maxLen) :
    Calls Try.prog 3 #[.agg x.cells, .agg y.cells] w fun e w' => e = .returned (.bool true) ∧ Below w.heap.size w w' := by
  have hmix : Try.prog.follows .mixedOrders = true := by kernel_rfl
  obtain ⟨nm0, tn0, pr0, dl0, a0, n0, c0, ds0, bs0, cp0, at0, ls0, cr0, ct0⟩ := x
  obtain ⟨nm1, tn1, pr1, dl1, a1, n1, c1, ds1, bs1, cp1, at1, ls1, cr1, ct1⟩ := y
  simp only at hx hy wx wy hn hm
  obtain ⟨V, hV⟩ : ∃ V, V = (w.alloc (.cells #[.string nm0, .string tn0, .int .i64 pr0, .int .i64 dl0, .slice a0 n0 c0, .int .i64 bs0, .int .i64 cp0, .int .i64 at0, .int .i64 ls0, .string cr0, .int .i64 ct0] 24)).alloc (.cells #[.string nm1, .string tn1, .int .i64 pr1, .int .i64 dl1, .slice a1 n1 c1, .int .i64 bs1, .int .i64 cp1, .int .i64 at1, .int .i64 ls1, .string cr1, .int .i64 ct1] 24) := ⟨_, rfl⟩
  have hb1 : Below w.heap.size w V := by rw [hV]; exact ((Below.refl _ w).alloc (Nat.le_refl _) _).alloc (by simp) _
  have hsz : V.heap.size = w.heap.size + 2 := by rw [hV]; simp
  have hx0 : V.heap[w.heap.size]? = some (.cells #[.string nm0, .string tn0, .int .i64 pr0, .int .i64 dl0, .slice a0 n0 c0, .int .i64 bs0, .int .i64 cp0, .int .i64 at0, .int .i64 ls0, .string cr0, .int .i64 ct0] 24 (0, 0)) := by rw [hV]; exact ((Below.refl _ _).alloc (Nat.le_refl _) _ |>.block _ (by simp)).trans (MapKept.heap_alloc w _).1
  have hx1 : V.heap[w.heap.size + 1]? = some (.cells #[.string nm1, .string tn1, .int .i64 pr1, .int .i64 dl1, .slice a1 n1 c1, .int .i64 bs1, .int .i64 cp1, .int .i64 at1, .int .i64 ls1, .string cr1, .int .i64 ct1] 24 (0, 0)) := by
    rw [hV]
    have h := (MapKept.heap_alloc (w.alloc (.cells #[.string nm0, .string tn0, .int .i64 pr0, .int .i64 dl0, .slice a0 n0 c0, .int .i64 bs0, .int .i64 cp0, .int .i64 at0, .int .i64 ls0, .string cr0, .int .i64 ct0] 24)) (.cells #[.string nm1, .string tn1, .int .i64 pr1, .int .i64 dl1, .slice a1 n1 c1, .int .i64 bs1, .int .i64 cp1, .int .i64 at1, .int .i64 ls1, .string cr1, .int .i64 ct1] 24)).1
    rwa [World.size_alloc] at h
  have dx := hx.old hb1
  have dy := hy.old hb1
  have HFx := Lib.hid (fun (W : World) (h : Below V.heap.size V W) => Few_any ⟨nm0, tn0, pr0, dl0, a0, n0, c0, ds0, bs0, cp0, at0, ls0, cr0, ct0⟩ (w := W) (dx.old h) hn)
  have HFy := Lib.hid (fun (W : World) (h : Below V.heap.size V W) => Few_any ⟨nm1, tn1, pr1, dl1, a1, n1, c1, ds1, bs1, cp1, at1, ls1, cr1, ct1⟩ (w := W) (dy.old h) hm)
  have HL := Lib.hid (fun (W : World) => lives14_any W)
  have HB := Lib.hid (And.intro hb1 (And.intro dx (And.intro dy (And.intro wx (And.intro wy (And.intro hn hm))))))
  have HK := Lib.hid (And.intro hsz (And.intro hx0 hx1))
  clear hb1 dx dy wx wy hn hm hx hy hx0 hx1 hsz
  unfold Spc.cells at *
  simp only at HFx HFy ⊢
  go_enter Try.func3, Try.ntmps3
  go_wp2_with fail
  rw [← hV]
  have HV := Lib.hid hV
  clear hV
  refine (HL.out V).mono ?_
  rintro e w1 ⟨rfl, q1⟩
  obtain ⟨⟨l0, l1, l2, l3, l4, l5, l6, l7, l8, l9, l10⟩, _⟩ := eleven (old2 q1 HK.out.2.1)
  go_wp2_with fail
  refine (HFx.out w1 q1).mono ?_
  rintro e w2 ⟨f0, rfl, hf0, b2⟩
  have q2 := q1.trans (b2.mono q1.size)
  have Q2 := Lib.hid (And.intro hf0 q2)
  clear l0 l1 l2 l3 l4 l5 l6 l7 l8 l9 l10 q1 q2 b2 hf0
  cases f0 with
  | false =>
    go_wp2_with fail
    refine (HL.out w2).mono ?_
    rintro e w3 ⟨rfl, q3⟩
    have Q3 := Lib.hid q3
    clear q3
    go_wp2_with fail
    go_ret
    exact ⟨rfl, HB.out.1.trans ((Q2.out.2.trans (Q3.out.mono Q2.out.2.size)).mono HB.out.1.size)⟩
  | true =>
  obtain ⟨⟨l0, l1, l2, l3, l4, l5, l6, l7, l8, l9, l10⟩, _⟩ := eleven (old2 Q2.out.2 HK.out.2.2)
  go_wp2_with fail
  refine (HFy.out w2 Q2.out.2).mono ?_
  rintro e w3 ⟨f1, rfl, hf1, b3⟩
  have q3 := Q2.out.2.trans (b3.mono Q2.out.2.size)
  have Q3 := Lib.hid (And.intro hf1 q3)
  clear l0 l1 l2 l3 l4 l5 l6 l7 l8 l9 l10 q3 b3 hf1
  cases f1 with
  | false =>
    go_wp2_with fail
    refine (HL.out w3).mono ?_
    rintro e w4 ⟨rfl, q4⟩
    have Q4 := Lib.hid q4
    clear q4
    go_wp2_with fail
    go_ret
    exact ⟨rfl, HB.out.1.trans ((Q3.out.2.trans (Q4.out.mono Q3.out.2.size)).mono HB.out.1.size)⟩
  | true =>
  have fx := Q2.out.1 (by first | rfl | trivial)
  have fy := Q3.out.1 (by first | rfl | trivial)
  have hBx := fun (W : World) (h : Below V.heap.size V W) => Bytes_any ⟨nm0, tn0, pr0, dl0, a0, n0, c0, ds0, bs0, cp0, at0, ls0, cr0, ct0⟩ (w := W) (HB.out.2.1.old h) HB.out.2.2.2.1 fx
  have hBy := fun (W : World) (h : Below V.heap.size V W) => Bytes_any ⟨nm1, tn1, pr1, dl1, a1, n1, c1, ds1, bs1, cp1, at1, ls1, cr1, ct1⟩ (w := W) (HB.out.2.2.1.old h) HB.out.2.2.2.2.1 fy
  have hr : sm ⟨nm0, tn0, pr0, dl0, a0, n0, c0, ds0, bs0, cp0, at0, ls0, cr0, ct0⟩ ⟨nm1, tn1, pr1, dl1, a1, n1, c1, ds1, bs1, cp1, at1, ls1, cr1, ct1⟩ = true ↔ specB ⟨nm0, tn0, pr0, dl0, a0, n0, c0, ds0, bs0, cp0, at0, ls0, cr0, ct0⟩ = specB ⟨nm1, tn1, pr1, dl1, a1, n1, c1, ds1, bs1, cp1, at1, ls1, cr1, ct1⟩ := sm_iff.trans (eqv_iff HB.out.2.1.1 HB.out.2.2.1.1)
  have hrr := str_beq _ _ _ hr
  obtain ⟨r, er⟩ : ∃ r, r = sm ⟨nm0, tn0, pr0, dl0, a0, n0, c0, ds0, bs0, cp0, at0, ls0, cr0, ct0⟩ ⟨nm1, tn1, pr1, dl1, a1, n1, c1, ds1, bs1, cp1, at1, ls1, cr1, ct1⟩ := ⟨_, rfl⟩
  rw [← er] at hrr
  obtain ⟨WA, eA⟩ : ∃ WA : ByteArray, WA = ⟨(specB ⟨nm0, tn0, pr0, dl0, a0, n0, c0, ds0, bs0, cp0, at0, ls0, cr0, ct0⟩).toArray⟩ := ⟨_, rfl⟩
  obtain ⟨WB, eB⟩ : ∃ WB : ByteArray, WB = ⟨(specB ⟨nm1, tn1, pr1, dl1, a1, n1, c1, ds1, bs1, cp1, at1, ls1, cr1, ct1⟩).toArray⟩ := ⟨_, rfl⟩
  simp only [T, ← eA] at hBx
  simp only [T, ← eB] at hBy
  rw [← eA, ← eB] at hrr
  have HX := Lib.hid (And.intro hBx (And.intro hBy (And.intro er fx)))
  clear hBx hBy hr er eA eB fx fy
  unfold Spc.cells at HX
  simp only at HX
  obtain ⟨⟨l0, l1, l2, l3, l4, l5, l6, l7, l8, l9, l10⟩, _⟩ := eleven (old2 Q3.out.2 HK.out.2.1)
  go_wp2_with fail
  refine (HX.out.1 w3 Q3.out.2).mono ?_
  rintro e w4 ⟨rfl, b4⟩
  have q4 := Q3.out.2.trans (b4.mono Q3.out.2.size)
  clear l0 l1 l2 l3 l4 l5 l6 l7 l8 l9 l10
  obtain ⟨⟨l0, l1, l2, l3, l4, l5, l6, l7, l8, l9, l10⟩, _⟩ := eleven (old2 q4 HK.out.2.1)
  have hCl := Clone_any ⟨nm0, tn0, pr0, dl0, a0, n0, c0, ds0, bs0, cp0, at0, ls0, cr0, ct0⟩ (w := w4) (HB.out.2.1.old q4) (by have := HX.out.2.2.2.2.2.2.1; simp only at this ⊢; omega)
  have Q4 := Lib.hid q4
  have HCl := Lib.hid hCl
  clear q4 b4 hCl
  unfold Spc.cells at HCl
  simp only at HCl
  go_wp2_with fail
  refine HCl.out.mono ?_
  rintro e w5 ⟨y2, rfl, hy2, b5, d5, row⟩
  obtain ⟨a2, c2, rfl⟩ : ∃ a2 c2, y2 = ⟨nm0, tn0, pr0, dl0, a2, n0, c2, ds0, bs0, cp0, at0, ls0, cr0, ct0⟩ := ⟨_, _, hy2⟩
  clear hy2
  simp only at d5 row ⊢
  clear l0 l1 l2 l3 l4 l5 l6 l7 l8 l9 l10
  have Q5 := Lib.hid (And.intro b5 (And.intro d5 row))
  clear b5 d5 row
  go_wp2_with fail
  obtain ⟨U, hU⟩ : ∃ U, U = w5.alloc (.cells #[.string nm0, .string tn0, .int .i64 pr0, .int .i64 dl0, .slice a2 n0 c2, .int .i64 bs0, .int .i64 cp0, .int .i64 at0, .int .i64 ls0, .string cr0, .int .i64 ct0] 24) := ⟨_, rfl⟩
  rw [← hU]
  have u5 : Below w5.heap.size w5 U := by rw [hU]; exact (Below.refl _ _).alloc (Nat.le_refl _) _
  have xc : U.heap[w5.heap.size]? = some (.cells #[.string nm0, .string tn0, .int .i64 pr0, .int .i64 dl0, .slice a2 n0 c2, .int .i64 bs0, .int .i64 cp0, .int .i64 at0, .int .i64 ls0, .string cr0, .int .i64 ct0] 24 (0, 0)) := by rw [hU]; exact (MapKept.heap_alloc w5 _).1
  have q5 : Below w4.heap.size w4 U := Q5.out.1.trans (u5.mono Q5.out.1.size)
  have qU : Below V.heap.size V U := Q4.out.trans (q5.mono Q4.out.size)
  have xa := old2 qU HK.out.2.1
  have xb := old2 qU HK.out.2.2
  have dxU := HB.out.2.1.old qU
  have dyU := HB.out.2.2.1.old qU
  have dcU := Q5.out.2.1.old u5
  have hSc := fun (W : World) (h : Below U.heap.size U W) => Same_any ⟨nm0, tn0, pr0, dl0, a0, n0, c0, ds0, bs0, cp0, at0, ls0, cr0, ct0⟩ ⟨nm0, tn0, pr0, dl0, a2, n0, c2, ds0, bs0, cp0, at0, ls0, cr0, ct0⟩ (w := W) (dxU.old h) (dcU.old h) HB.out.2.2.2.2.2.1 HB.out.2.2.2.2.2.1
  rw [sm_yes (show Spc.eqv ⟨nm0, tn0, pr0, dl0, a0, n0, c0, ds0, bs0, cp0, at0, ls0, cr0, ct0⟩ ⟨nm0, tn0, pr0, dl0, a2, n0, c2, ds0, bs0, cp0, at0, ls0, cr0, ct0⟩ from ⟨rfl, rfl, rfl, rfl, rfl, rfl, rfl, rfl, rfl, rfl, rfl⟩)] at hSc
  have hSb := fun (W : World) (h : Below U.heap.size U W) => Same_any ⟨nm0, tn0, pr0, dl0, a0, n0, c0, ds0, bs0, cp0, at0, ls0, cr0, ct0⟩ ⟨nm1, tn1, pr1, dl1, a1, n1, c1, ds1, bs1, cp1, at1, ls1, cr1, ct1⟩ (w := W) (dxU.old h) (dyU.old h) HB.out.2.2.2.2.2.1 HB.out.2.2.2.2.2.2
  simp only [← HX.out.2.2.1] at hSb
  have HS := Lib.hid (And.intro hSc hSb)
  clear hSc hSb
  unfold Spc.cells at HS
  simp only at HS
  have HBy := Lib.hid (fun (W : World) (h : Below U.heap.size U W) => HX.out.2.1 W (qU.trans (h.mono qU.size)))
  have QU := Lib.hid (And.intro u5 (And.intro q5 qU))
  have HU := Lib.hid hU
  clear u5 q5 qU dxU dyU dcU hU
  refine begin' 13 (fun ZZ => Below U.heap.size U ZZ) hmix ((Below.refl _ U).drew) (fun hS0 => ?_)
  refine Ht.takeD 8 (i := 0) ⟨some 25, _, _, _, _, _⟩ (.agg #[.string nm0, .string tn0, .int .i64 pr0, .int .i64 dl0, .slice a0 n0 c0, .int .i64 bs0, .int .i64 cp0, .int .i64 at0, .int .i64 ls0, .string cr0, .int .i64 ct0]) rfl (by kernel_rfl) (by kernel_rfl) (by decide) (by kernel_rfl) (by kernel_rfl) (by kernel_rfl) hS0 (Or.inl ⟨by rfl, by (intro X hX; have := (eleven (old2 hX xa)).1; go_simp)⟩) ?_
  simp only [Act.put, List.setIfInBounds_toArray, List.set_cons_zero, List.set_cons_succ]
  refine Ht.takeD 8 (i := 1) ⟨some 26, _, _, _, _, _⟩ (.agg #[.string nm0, .string tn0, .int .i64 pr0, .int .i64 dl0, .slice a2 n0 c2, .int .i64 bs0, .int .i64 cp0, .int .i64 at0, .int .i64 ls0, .string cr0, .int .i64 ct0]) rfl (by kernel_rfl) (by kernel_rfl) (by decide) (by kernel_rfl) (by kernel_rfl) (by kernel_rfl) hS0 (Or.inl ⟨by rfl, by (intro X hX; have := (eleven (old2 hX xc)).1; go_simp)⟩) ?_
  simp only [Act.put, List.setIfInBounds_toArray, List.set_cons_zero, List.set_cons_succ]
  refine Ht.step (i := 2) ⟨some 27, _, _, _, _, _⟩ rfl (by kernel_rfl) (by rfl) (fun K hK => ?_)
  refine Ht.enter 9 #[.agg #[.string nm0, .string tn0, .int .i64 pr0, .int .i64 dl0, .slice a0 n0 c0, .int .i64 bs0, .int .i64 cp0, .int .i64 at0, .int .i64 ls0, .string cr0, .int .i64 ct0], .agg #[.string nm0, .string tn0, .int .i64 pr0, .int .i64 dl0, .slice a2 n0 c2, .int .i64 bs0, .int .i64 cp0, .int .i64 at0, .int .i64 ls0, .string cr0, .int .i64 ct0]] (by have hen := fun args w => enters_of (P := Try.prog) Try.func9 (by kernel_rfl) rfl args w; go_simp) (HS.out.1 _ hS0) ?_
  rintro e v1 ⟨rfl, b1⟩
  have B1 := Lib.hid b1
  have q1 : Below U.heap.size U v1 := Below.trans ((Below.refl _ U).drew) (B1.out.mono (Nat.le_refl _))
  clear b1
  refine ⟨_, rfl, hK _ _ (fun hn => q1) (fun hnx => ?_)⟩
  clear hK K hnx
  try simp only [Act.put, List.setIfInBounds_toArray, List.set_cons_zero, List.set_cons_succ]
  refine Ht.takeD 8 (i := 3) ⟨some 28, _, _, _, _, _⟩ (.bool false) rfl (by kernel_rfl) (by kernel_rfl) (by decide) (by kernel_rfl) (by kernel_rfl) (by kernel_rfl) q1 (Or.inl ⟨by rfl, by (intro X hX; go_simp)⟩) ?_
  simp only [Act.put, List.setIfInBounds_toArray, List.set_cons_zero, List.set_cons_succ]
  refine Ht.takeD 8 (i := 4) ⟨some 29, _, _, _, _, _⟩ (.bool false) rfl (by kernel_rfl) (by kernel_rfl) (by decide) (by kernel_rfl) (by kernel_rfl) (by kernel_rfl) q1 (Or.inl ⟨by rfl, by (intro X hX; go_simp)⟩) ?_
  simp only [Act.put, List.setIfInBounds_toArray, List.set_cons_zero, List.set_cons_succ]
  refine Ht.takeD 8 (i := 5) ⟨some 30, _, _, _, _, _⟩ (.agg #[.string nm0, .string tn0, .int .i64 pr0, .int .i64 dl0, .slice a0 n0 c0, .int .i64 bs0, .int .i64 cp0, .int .i64 at0, .int .i64 ls0, .string cr0, .int .i64 ct0]) rfl (by kernel_rfl) (by kernel_rfl) (by decide) (by kernel_rfl) (by kernel_rfl) (by kernel_rfl) q1 (Or.inl ⟨by rfl, by (intro X hX; have := (eleven (old2 hX xa)).1; go_simp)⟩) ?_
  simp only [Act.put, List.setIfInBounds_toArray, List.set_cons_zero, List.set_cons_succ]
  refine Ht.takeD 8 (i := 6) ⟨some 31, _, _, _, _, _⟩ (.agg #[.string nm1, .string tn1, .int .i64 pr1, .int .i64 dl1, .slice a1 n1 c1, .int .i64 bs1, .int .i64 cp1, .int .i64 at1, .int .i64 ls1, .string cr1, .int .i64 ct1]) rfl (by kernel_rfl) (by kernel_rfl) (by decide) (by kernel_rfl) (by kernel_rfl) (by kernel_rfl) q1 (Or.inl ⟨by rfl, by (intro X hX; have := (eleven (old2 hX xb)).1; go_simp)⟩) ?_
  simp only [Act.put, List.setIfInBounds_toArray, List.set_cons_zero, List.set_cons_succ]
  refine Ht.takeD 8 (i := 8) ⟨some 33, _, _, _, _, _⟩ (.string WA) rfl (by kernel_rfl) (by kernel_rfl) (by decide) (by kernel_rfl) (by kernel_rfl) (by kernel_rfl) q1 (Or.inl ⟨by rfl, by (intro X hX; go_simp)⟩) ?_
  simp only [Act.put, List.setIfInBounds_toArray, List.set_cons_zero, List.set_cons_succ]
  refine Ht.takeD 8 (i := 9) ⟨some 34, _, _, _, _, _⟩ (.agg #[.string nm1, .string tn1, .int .i64 pr1, .int .i64 dl1, .slice a1 n1 c1, .int .i64 bs1, .int .i64 cp1, .int .i64 at1, .int .i64 ls1, .string cr1, .int .i64 ct1]) rfl (by kernel_rfl) (by kernel_rfl) (by decide) (by kernel_rfl) (by kernel_rfl) (by kernel_rfl) q1 (Or.inl ⟨by rfl, by (intro X hX; have := (eleven (old2 hX xb)).1; go_simp)⟩) ?_
  simp only [Act.put, List.setIfInBounds_toArray, List.set_cons_zero, List.set_cons_succ]
  refine Ht.step (i := 7) ⟨some 32, _, _, _, _, _⟩ rfl (by kernel_rfl) (by rfl) (fun K hK => ?_)
  refine Ht.enter 9 #[.agg #[.string nm0, .string tn0, .int .i64 pr0, .int .i64 dl0, .slice a0 n0 c0, .int .i64 bs0, .int .i64 cp0, .int .i64 at0, .int .i64 ls0, .string cr0, .int .i64 ct0], .agg #[.string nm1, .string tn1, .int .i64 pr1, .int .i64 dl1, .slice a1 n1 c1, .int .i64 bs1, .int .i64 cp1, .int .i64 at1, .int .i64 ls1, .string cr1, .int .i64 ct1]] (by have hen := fun args w => enters_of (P := Try.prog) Try.func9 (by kernel_rfl) rfl args w; go_simp) (HS.out.2 _ q1) ?_
  rintro e v2 ⟨rfl, b2⟩
  have B2 := Lib.hid b2
  have q2 : Below U.heap.size U v2 := q1.trans (B2.out.mono q1.size)
  clear b2
  refine ⟨_, rfl, hK _ _ (fun hn => q2) (fun hnx => ?_)⟩
  clear hK K hnx
  try simp only [Act.put, List.setIfInBounds_toArray, List.set_cons_zero, List.set_cons_succ]
  refine Ht.step (i := 10) ⟨some 35, _, _, _, _, _⟩ rfl (by kernel_rfl) (by rfl) (fun K hK => ?_)
  refine Ht.enter 7 #[.agg #[.string nm1, .string tn1, .int .i64 pr1, .int .i64 dl1, .slice a1 n1 c1, .int .i64 bs1, .int .i64 cp1, .int .i64 at1, .int .i64 ls1, .string cr1, .int .i64 ct1]] (by have hen := fun args w => enters_of (P := Try.prog) Try.func7 (by kernel_rfl) rfl args w; go_simp) (HBy.out _ q2) ?_
  rintro e v3 ⟨rfl, b3⟩
  have B3 := Lib.hid b3
  have q3 : Below U.heap.size U v3 := q2.trans (B3.out.mono q2.size)
  clear b3
  refine ⟨_, rfl, hK _ _ (fun hn => q3) (fun hnx => ?_)⟩
  clear hK K hnx
  try simp only [Act.put, List.setIfInBounds_toArray, List.set_cons_zero, List.set_cons_succ]
  refine Ht.takeD 8 (i := 11) ⟨some 36, _, _, _, _, _⟩ (.bool r) rfl (by kernel_rfl) (by kernel_rfl) (by decide) (by kernel_rfl) (by kernel_rfl) (by kernel_rfl) q3 (Or.inl ⟨by rfl, by (intro X hX; have := hrr; go_simp)⟩) ?_
  simp only [Act.put, List.setIfInBounds_toArray, List.set_cons_zero, List.set_cons_succ]
  refine Ht.takeD 8 (i := 12) ⟨some 37, _, _, _, _, _⟩ (.bool false) rfl (by kernel_rfl) (by kernel_rfl) (by decide) (by kernel_rfl) (by kernel_rfl) (by kernel_rfl) q3 (Or.inl ⟨by rfl, by (intro X hX; go_simp)⟩) ?_
  simp only [Act.put, List.setIfInBounds_toArray, List.set_cons_zero, List.set_cons_succ]
  refine Ht.step (i := 13) ⟨some 38, _, _, _, _, _⟩ rfl (by kernel_rfl) (by rfl) (fun K hK => ?_)
  go_simp
  refine hK _ _ (fun hn => absurd rfl hn) (fun hnx => ?_)
  clear hK K hnx
  try simp only [Act.put, List.setIfInBounds_toArray, List.set_cons_zero, List.set_cons_succ]
  refine done (by kernel_rfl) ?_
  have Q6 := Lib.hid q3
  clear q1 q2 q3 B1 B2 B3 HS HBy hS0
  obtain ⟨⟨l0, l1, l2, l3, l4, l5, l6, l7, l8, l9, l10⟩, _⟩ := eleven (old2 Q6.out xc)
  go_wp2_with fail
  have hn20 : n0 ≤ 20 := by have := HX.out.2.2.2.2.2.2.1; simpa using this
  have hrow : n0 = 0 ∨ ∃ g cur, a2 = some ⟨g, 0, none⟩ ∧ w4.heap.size ≤ g ∧ g < w5.heap.size ∧ v3.heap[g]? = some (.cells cur 9 (0, 0)) ∧ n0 ≤ cur.size := by
    rcases Q5.out.2.2 with h | ⟨g, cur, h1, h2, h3, h4⟩
    · exact .inl h
    · have hg : g < w5.heap.size := (Array.getElem?_eq_some_iff.1 h3).1
      exact .inr ⟨g, cur, h1, h2, hg, old2 Q6.out (old2 QU.out.1 h3), h4⟩
  have h0 : Below w4.heap.size w4 v3 := QU.out.2.1.trans (Q6.out.mono QU.out.2.1.size)
  have hc0 := old2 Q6.out xc
  have H0 := Lib.hid (And.intro h0 (And.intro hc0 hrow))
  clear l0 l1 l2 l3 l4 l5 l6 l7 l8 l9 l10 h0 hc0 hrow xa xb xc hrr
  go_loopw [42] (fun s42 wr => ∃ k : Nat, s42 = .int .i64 k ∧ k ≤ n0 ∧ Below w4.heap.size w4 wr ∧ wr.heap[w5.heap.size]? = some (.cells #[.string nm0, .string tn0, .int .i64 pr0, .int .i64 dl0, .slice a2 n0 c2, .int .i64 bs0, .int .i64 cp0, .int .i64 at0, .int .i64 ls0, .string cr0, .int .i64 ct0] 24 (0, 0)) ∧
    (n0 = 0 ∨ ∃ g cur, a2 = some ⟨g, 0, none⟩ ∧ w4.heap.size ≤ g ∧ g < w5.heap.size ∧ wr.heap[g]? = some (.cells cur 9 (0, 0)) ∧ n0 ≤ cur.size)) (fun s42 _ => n0 - (RowKit.intOf s42).toNat)
  case atStart => exact ⟨0, rfl, Nat.zero_le _, H0.out.1, H0.out.2.1, H0.out.2.2⟩
  case round =>
    obtain ⟨k, rfl, hk, hb, hc, hr⟩ := hrel
    by_cases hlt : k < n0
    · rcases hr with h | ⟨g, cur, rfl, h1, h2, h3, h4⟩
      · omega
      obtain ⟨⟨l0, l1, l2, l3, l4, l5, l6, l7, l8, l9, l10⟩, _⟩ := eleven hc
      obtain ⟨u, hu⟩ : ∃ u, cur[k]? = some u := ⟨_, Array.getElem?_eq_getElem (by omega)⟩
      have hcell : wr.cell? ⟨g, k, none⟩ = some u := ((by simp [World.cell?, h3] : wr.cell? ⟨g, k, none⟩ = cur[k]?)).trans hu
      have hfree : wr.frozen? ⟨g, k, none⟩ = false := by simp [World.frozen?, h3]
      have H := Lib.hid (And.intro hb (And.intro hc h3))
      clear hb hc h3 hu
      go_wp2_with fail
      go_roundw
      case rel =>
        refine ⟨k + 1, rfl, hlt, Below.setCell H.out.1 (p := ⟨g, k, none⟩) h1 _, ?_, .inr ⟨g, _, rfl, h1, h2, heap_setCell_same _ g k _ _ _ H.out.2.2, by simpa using h4⟩⟩
        rw [heap_setCell_other _ _ _ _ (show w5.heap.size ≠ g by omega)]
        exact H.out.2.1
      case measure => simp only [RowKit.intOf]; omega
    · have hqw : Below V.heap.size V wr := Q4.out.trans (hb.mono Q4.out.size)
      obtain ⟨⟨l0, l1, l2, l3, l4, l5, l6, l7, l8, l9, l10⟩, _⟩ := eleven (old2 hqw HK.out.2.1)
      have H := Lib.hid hqw
      clear hqw hb hc hr
      go_wp2_with fail
      refine (HX.out.1 wr H.out).mono ?_
      rintro e w9 ⟨rfl, b9⟩
      have B9 := Lib.hid b9
      clear b9
      go_wp2_with fail
      go_ret
      exact ⟨rfl, HB.out.1.trans ((H.out.trans (B9.out.mono H.out.size)).mono HB.out.1.size)⟩
end Go.Proofs.Ytjbfiblgkdedgaa.Sp
