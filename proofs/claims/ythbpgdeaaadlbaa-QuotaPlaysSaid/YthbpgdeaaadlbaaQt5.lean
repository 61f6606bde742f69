
/- quotas: Copy -/
import Derived.Test.YthbpgdeaaadlbaaQt4
import Derived.Test.YthbpgdeaaadlbaaQtLay
namespace Go.Proofs.Ythbpgdeaaadlbaa.Qt
open Go.RowKit Go.Lib Go.Maps Go.WideElems Go.ChangeMaps Go.MapKept Hp Ht
set_option linter.unusedVariables false
set_option linter.unusedSectionVars false
set_option maxRecDepth 20000
theorem ms_clone {w : World} {ob : Option Nat} {n : Nat} {f : K → Option Int} (h : Ms w ob n f) : Calls Try.prog 18 #[.map ob] w fun e w' => ∃ ob', e = .returned (.map ob') ∧ Ms w' ob' n f ∧ (∀ b, ob' = some b → w.heap.size ≤ b ∧ b < w'.heap.size) ∧ Below w.heap.size w w' := by
  cases ob with
  | none =>
    have hc := AnyW.maps_Clone_nil Try.mpCloneSI w
    change Calls Try.prog 18 _ _ _ at hc
    refine hc.mono ?_
    rintro e w' ⟨rfl, rfl⟩
    exact ⟨none, rfl, h, (fun _ e => by cases e), Below.refl _ _⟩
  | some b =>
    obtain ⟨D, hm, hs, hD⟩ := h
    have hc := AnyW.maps_Clone_owns Try.mpCloneSI 9 _ b n D w hm
    change Calls Try.prog 18 _ _ _ at hc
    refine hc.mono ?_
    rintro e w' ⟨rfl, h1, _, h2⟩
    exact ⟨_, rfl, ⟨D, h1, hs, hD⟩, (fun b e => by cases e; exact ⟨Nat.le_refl _, h1.lt⟩), h2⟩
section
variable {S : Nat → Prop} {w : World} {lb : Nat} {ea : Int} {nm c : Nat} {M H : K → Option Int}
set_option maxHeartbeats 1000000 in
theorem Copy_any (h : Lv S w lb ea nm c M H) : Calls Try.prog 12 #[.pointer (some ⟨lb, 0, none⟩)] w fun e w' =>
    ∃ lb' S', e = .returned (.pointer (some ⟨lb', 0, none⟩)) ∧ Lv S' w' lb' ea nm c M H ∧ (∀ x, S' x → w.heap.size ≤ x) ∧ Below w.heap.size w w' := by
  have hmix : Try.prog.follows .mixedOrders = true := by kernel_rfl
  obtain ⟨mo, ho, nh, q, hn⟩ := h
  obtain ⟨c0, c1, c2⟩ := q.cells
  have hlt := q.size lb q.own
  have hC := ms_clone (w := w.drew) (q.most.kept fun _ _ => rfl)
  have HH := Lib.hid (And.intro q hn)
  clear q hn
  go_enter Try.func12, Try.ntmps12
  go_wp2_with fail
  refine begin' 99 (fun _ => True) hmix trivial (fun _ => ?_)
  refine later [14, 15, 16] (fun X => X.cell? ⟨lb, 0, none⟩ = some (.int .i64 ea) ∧ X.cell? ⟨lb, 1, none⟩ = some (.map mo) ∧ X.cell? ⟨lb, 2, none⟩ = some (.map ho)) (⟨c0, c1, c2⟩) (fun hS0 => ?_)
  refine Ht.takeS 10 (i := 0) ⟨some 5, _, _, _, _, _⟩ (.pointer (some ⟨lb, 0, none⟩)) rfl (by kernel_rfl) (by kernel_rfl) (by kernel_rfl) (by kernel_rfl) (by kernel_rfl) hS0 (Or.inl ⟨by rfl, by (intro X hX; go_simp)⟩) ?_
  simp only [Act.put, List.setIfInBounds_toArray, List.set_cons_zero, List.set_cons_succ]
  refine Ht.takeS 10 (i := 1) ⟨some 6, _, _, _, _, _⟩ (.pointer (some ⟨lb, 0, none⟩)) rfl (by kernel_rfl) (by kernel_rfl) (by kernel_rfl) (by kernel_rfl) (by kernel_rfl) hS0 (Or.inl ⟨by rfl, by (intro X hX; go_simp)⟩) ?_
  simp only [Act.put, List.setIfInBounds_toArray, List.set_cons_zero, List.set_cons_succ]
  refine Ht.takeS 10 (i := 2) ⟨some 7, _, _, _, _, _⟩ (.pointer (some ⟨lb, 0, none⟩)) rfl (by kernel_rfl) (by kernel_rfl) (by kernel_rfl) (by kernel_rfl) (by kernel_rfl) hS0 (Or.inl ⟨by rfl, by (intro X hX; go_simp)⟩) ?_
  simp only [Act.put, List.setIfInBounds_toArray, List.set_cons_zero, List.set_cons_succ]
  refine Ht.takeS 10 (i := 3) ⟨some 8, _, _, _, _, _⟩ (.int .i64 ea) rfl (by kernel_rfl) (by kernel_rfl) (by kernel_rfl) (by kernel_rfl) (by kernel_rfl) hS0 (Or.inl ⟨by rfl, by (intro X hX; have := hX.1; go_simp)⟩) ?_
  simp only [Act.put, List.setIfInBounds_toArray, List.set_cons_zero, List.set_cons_succ]
  refine Ht.takeS 10 (i := 4) ⟨some 9, _, _, _, _, _⟩ (.pointer (some ⟨lb, 0, none⟩)) rfl (by kernel_rfl) (by kernel_rfl) (by kernel_rfl) (by kernel_rfl) (by kernel_rfl) hS0 (Or.inl ⟨by rfl, by (intro X hX; go_simp)⟩) ?_
  simp only [Act.put, List.setIfInBounds_toArray, List.set_cons_zero, List.set_cons_succ]
  refine Ht.takeS 10 (i := 5) ⟨some 10, _, _, _, _, _⟩ (.pointer (some ⟨lb, 0, none⟩)) rfl (by kernel_rfl) (by kernel_rfl) (by kernel_rfl) (by kernel_rfl) (by kernel_rfl) hS0 (Or.inl ⟨by rfl, by (intro X hX; go_simp)⟩) ?_
  simp only [Act.put, List.setIfInBounds_toArray, List.set_cons_zero, List.set_cons_succ]
  refine Ht.takeS 10 (i := 6) ⟨some 11, _, _, _, _, _⟩ (.pointer (some ⟨lb, 1, none⟩)) rfl (by kernel_rfl) (by kernel_rfl) (by kernel_rfl) (by kernel_rfl) (by kernel_rfl) hS0 (Or.inl ⟨by rfl, by (intro X hX; go_simp)⟩) ?_
  simp only [Act.put, List.setIfInBounds_toArray, List.set_cons_zero, List.set_cons_succ]
  refine Ht.takeS 10 (i := 7) ⟨some 12, _, _, _, _, _⟩ (.map mo) rfl (by kernel_rfl) (by kernel_rfl) (by kernel_rfl) (by kernel_rfl) (by kernel_rfl) hS0 (Or.inl ⟨by rfl, by (intro X hX; have := hX.2.1; go_simp)⟩) ?_
  simp only [Act.put, List.setIfInBounds_toArray, List.set_cons_zero, List.set_cons_succ]
  refine Ht.takeS 10 (i := 9) ⟨some 14, _, _, _, _, _⟩ (.pointer (some ⟨lb, 0, none⟩)) rfl (by kernel_rfl) (by kernel_rfl) (by kernel_rfl) (by kernel_rfl) (by kernel_rfl) hS0 (Or.inl ⟨by rfl, by (intro X hX; go_simp)⟩) ?_
  simp only [Act.put, List.setIfInBounds_toArray, List.set_cons_zero, List.set_cons_succ]
  refine Ht.takeS 10 (i := 10) ⟨some 15, _, _, _, _, _⟩ (.pointer (some ⟨lb, 0, none⟩)) rfl (by kernel_rfl) (by kernel_rfl) (by kernel_rfl) (by kernel_rfl) (by kernel_rfl) hS0 (Or.inl ⟨by rfl, by (intro X hX; go_simp)⟩) ?_
  simp only [Act.put, List.setIfInBounds_toArray, List.set_cons_zero, List.set_cons_succ]
  refine Ht.takeS 10 (i := 11) ⟨some 16, _, _, _, _, _⟩ (.pointer (some ⟨lb, 2, none⟩)) rfl (by kernel_rfl) (by kernel_rfl) (by kernel_rfl) (by kernel_rfl) (by kernel_rfl) hS0 (Or.inl ⟨by rfl, by (intro X hX; go_simp)⟩) ?_
  simp only [Act.put, List.setIfInBounds_toArray, List.set_cons_zero, List.set_cons_succ]
  refine Ht.takeS 10 (i := 12) ⟨some 17, _, _, _, _, _⟩ (.map ho) rfl (by kernel_rfl) (by kernel_rfl) (by kernel_rfl) (by kernel_rfl) (by kernel_rfl) hS0 (Or.inl ⟨by rfl, by (intro X hX; have := hX.2.2; go_simp)⟩) ?_
  simp only [Act.put, List.setIfInBounds_toArray, List.set_cons_zero, List.set_cons_succ]
  refine Ht.stepS (i := 8) ⟨some 13, _, _, _, _, _⟩ rfl (by kernel_rfl) (by rfl) (fun K hK => ?_)
  refine Ht.enter 18 #[.map mo] (by have hen := fun args w => enters_of (P := Try.prog) Try.func18 (by kernel_rfl) rfl args w; go_simp) (hC) ?_
  rintro e V ⟨o1, rfl, hm1, hn1, hb1⟩
  have hb1' : Below w.heap.size w V := ⟨hb1.os, hb1.tape, hb1.output, hb1.size, hb1.block⟩
  have d0 := (hb1'.cell (p := ⟨lb, 0, none⟩) hlt).trans hS0.1
  have d1 := (hb1'.cell (p := ⟨lb, 1, none⟩) hlt).trans hS0.2.1
  have d2 := (hb1'.cell (p := ⟨lb, 2, none⟩) hlt).trans hS0.2.2
  have hC2 := ms_clone (w := V) (HH.out.1.has.kept fun b hb => hb1'.block b (HH.out.1.size b (HH.out.1.ownH b hb)))
  have HV := Lib.hid (And.intro hm1 (And.intro hn1 hb1'))
  clear hm1 hn1 hb1 hb1' hC
  refine ⟨_, rfl, hK _ _ (fun hn => ⟨d0, d1, d2⟩) (fun hnx => ?_)⟩
  clear hK K hnx
  simp only [Act.put, List.setIfInBounds_toArray, List.set_cons_zero, List.set_cons_succ]
  refine Ht.stepS (i := 13) ⟨some 18, _, _, _, _, _⟩ rfl (by kernel_rfl) (by rfl) (fun K hK => ?_)
  refine Ht.enter 18 #[.map ho] (by have hen := fun args w => enters_of (P := Try.prog) Try.func18 (by kernel_rfl) rfl args w; go_simp) (hC2) ?_
  rintro e V2 ⟨o2, rfl, hm2, hn2, hb2⟩
  have hlV := Nat.lt_of_lt_of_le hlt HV.out.2.2.size
  have e0 := (hb2.cell (p := ⟨lb, 0, none⟩) hlV).trans d0
  have e1 := (hb2.cell (p := ⟨lb, 1, none⟩) hlV).trans d1
  have e2 := (hb2.cell (p := ⟨lb, 2, none⟩) hlV).trans d2
  have HW := Lib.hid (And.intro hm2 (And.intro hn2 hb2))
  clear hm2 hn2 hb2 hC2 hlV
  refine ⟨_, rfl, hK _ _ (fun hn => ⟨e0, e1, e2⟩) (fun hnx => ?_)⟩
  clear hK K hnx
  simp only [Act.put, List.setIfInBounds_toArray, List.set_cons_zero, List.set_cons_succ]
  clear e0 e1 e2 d0 d1 d2
  refine Ht.stepS (i := 14) ⟨some 19, _, _, _, _, _⟩ rfl (by kernel_rfl) (by rfl) (fun K hK => ?_)
  go_simp
  refine hK _ _ (fun hn => absurd (by decide) hn) (fun hnx => ?_)
  clear hK K hnx
  try simp only [Act.put, List.setIfInBounds_toArray, List.set_cons_zero, List.set_cons_succ]
  refine Ht.stepS (i := 15) ⟨some 20, _, _, _, _, _⟩ rfl (by kernel_rfl) (by rfl) (fun K hK => ?_)
  go_simp
  refine hK _ _ (fun hn => absurd (by decide) hn) (fun hnx => ?_)
  clear hK K hnx
  try simp only [Act.put, List.setIfInBounds_toArray, List.set_cons_zero, List.set_cons_succ]
  refine Ht.stepS (i := 16) ⟨some 2, _, _, _, _, _⟩ rfl (by kernel_rfl) (by rfl) (fun K hK => ?_)
  go_simp
  refine hK _ _ (fun hn => absurd (by decide) hn) (fun hnx => ?_)
  clear hK K hnx
  try simp only [Act.put, List.setIfInBounds_toArray, List.set_cons_zero, List.set_cons_succ]
  refine doneS (by kernel_rfl) ?_
  go_wp2_with fail
  go_ret
  obtain ⟨q, hn⟩ := HH.out
  obtain ⟨hm1, hn1, hb1⟩ := HV.out
  obtain ⟨hm2, hn2, hb2⟩ := HW.out
  obtain ⟨V3, hV3⟩ : ∃ X, X = V2.alloc (.cells #[.int .i64 ea, .map o1, .map o2] 46) := ⟨_, rfl⟩
  rw [← hV3]
  have hb3 : Below V2.heap.size V2 V3 := by rw [hV3]; exact (Below.refl _ _).alloc (Nat.le_refl _) _
  have z1 := hb1.size
  have z2 := hb2.size
  have z3 : V3.heap.size = V2.heap.size + 1 := by rw [hV3]; simp
  have hrow : V3.heap[V2.heap.size]? = some (.cells #[.int .i64 ea, .map o1, .map o2] 46 (0, 0)) := by rw [hV3]; exact (MapKept.heap_alloc V2 _).1
  refine ⟨V2.heap.size, fun x => x = V2.heap.size ∨ o1 = some x ∨ o2 = some x, by simp, ⟨o1, o2, nh, ⟨hrow, ?_, ?_, .inl rfl, (fun b e => .inr (.inl e)), (fun b e => .inr (.inr e)), ?_, ?_, q.okE, q.okM, q.okH⟩, hn⟩, ?_, ?_⟩
  · exact hm1.kept fun b e => by have := (hn1 b e).2; exact (hb3.block b (by omega)).trans (hb2.block b this)
  · exact hm2.kept fun b e => hb3.block b (hn2 b e).2
  · intro b e1 e2
    have := (hn1 b e1).2
    have := (hn2 b e2).1
    omega
  · rintro x (rfl | e | e)
    · omega
    · have := (hn1 x e).2; omega
    · have := (hn2 x e).2; omega
  · rintro x (rfl | e | e)
    · omega
    · exact (hn1 x e).1
    · have := (hn2 x e).1; omega
  · exact (hb1.trans (hb2.mono z1)).trans (hb3.mono (by omega))
end
end Go.Proofs.Ythbpgdeaaadlbaa.Qt
