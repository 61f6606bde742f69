
/- commands: the document's request; the same; little ones -/
import Derived.Test.YtfidmjpjfigmcaaCmG
import Derived.Test.YtfidmjpjfigmcaaCmS
import Derived.Test.YtfidmjpjfigmcaaSp4
import Derived.Deep.DeepCutAuto
import Derived.Deep.CutBlock
import Derived.WalkSmall
namespace Go.Proofs.Ytfidmjpjfigmcaa.Cm
open Go.RowKit Go.Lib Go.Shelf Wn Rf By Ht
open Sp (T join)
set_option linter.unusedVariables false
set_option maxRecDepth 20000
theorem info_cmd2 : (Try.prog.info? 29).map (·.size) = some 16 := by kernel_rfl
theorem info_spec2 : (Try.prog.info? 27).map (·.size) = some 11 := by kernel_rfl
theorem range_mid {w : World} {b o : Nat} {cs : Array Value} {vs : List Value} {t : TypeId} (h : w.heap[b]? = some (.cells cs t (0, 0))) (hv : ∀ j v, vs[j]? = some v → cs[o + j]? = some v) : w.rangeAt b o vs := by
  intro j v hj
  simp only [World.cell?, h]
  exact hv j v hj
theorem range_old {w w' : World} {b o : Nat} {vs : List Value} (h : w.rangeAt b o vs) (hb : Below w.heap.size w w') : w'.rangeAt b o vs := fun j v hj => by
  have := h j v hj
  exact (hb.cell (World.block_lt_of_cell? w _ this)).trans this
theorem cmd_len {c : Cmd} (hw : c.wf) (hm : c.med) : (cmdB c).length ≤ 40000 := by
  obtain ⟨w0, w1, w2, w3⟩ := hw
  obtain ⟨m1, m2, m3⟩ := hm
  have h0 : (part (bS c.kd) (Sp.specB c.sp)).length ≤ 30000 := by unfold part; split; exact spec_len w3 m3; exact Nat.zero_le _
  have h1 : (part (bW c.kd) (textB c.wk)).length ≤ 1010 := by unfold part; split; exact Sp.text_lenm m2; exact Nat.zero_le _
  have h2 : (part (bN c.kd) (textB c.nm)).length ≤ 1010 := by unfold part; split; exact Sp.text_lenm m1; exact Nat.zero_le _
  have h3 : (part (bT c.kd) (uvarint c.tk)).length ≤ 10 := by unfold part; split; exact uvarint_length64 w1; exact Nat.zero_le _
  have h4 : (part (bV c.kd) (Sp.zz c.vl)).length ≤ 10 := by unfold part; split; exact Sp.zz_len w2; exact Nat.zero_le _
  unfold cmdB tailC
  simp only [List.length_append]
  have h5 : (uvarint c.kd.toNat).length ≤ 10 := by
    refine uvarint_length64 ?_
    have : -9223372036854775808 ≤ c.kd ∧ c.kd ≤ 9223372036854775807 := by simpa [Sp.W64, Lit.wf, IntKind.min, IntKind.max, IntKind.signed, IntKind.bits] using w0
    omega
  omega
set_option maxHeartbeats 8000000 in
theorem refRequest_any (q : Req) {w : World} (hk : isK q.c.kd = true) (hd : Sp.Dp w q.c.sp.a q.c.sp.n q.c.sp.ds) (hwf : q.wf) (hm : q.c.med) :
    Calls Try.prog 9 #[.agg q.cells] w fun e w' => e = .returned (T (reqB q)) ∧ Below w.heap.size w w' := by
  have hmix : Try.prog.follows .mixedOrders = true := by kernel_rfl
  obtain ⟨u0, u1, hwc⟩ := hwf
  have hk' := isK_iff.1 hk
  obtain ⟨V, hV⟩ : ∃ V, V = w.alloc (.cells q.cells 31) := ⟨_, rfl⟩
  have hb : Below w.heap.size w V := by rw [hV]; exact (Below.refl _ w).alloc (Nat.le_refl _) _
  have hs : w.heap.size < V.heap.size := by rw [hV]; simp
  have hx0 : V.heap[w.heap.size]? = some (.cells q.cells 31 (0, 0)) := by rw [hV]; exact heap_alloc_new w _
  obtain ⟨cl, nu, c⟩ := q
  simp only at hk hd hm hwc u0 u1 hk' ⊢
  obtain ⟨L0, hL0⟩ : ∃ L, L = uvarint cl := ⟨_, rfl⟩
  obtain ⟨L1, hL1⟩ : ∃ L, L = uvarint nu := ⟨_, rfl⟩
  obtain ⟨L2, hL2⟩ : ∃ L, L = cmdB c := ⟨_, rfl⟩
  have g0 : L0.length ≤ 10 := by rw [hL0]; exact uvarint_length64 u0
  have g1 : L1.length ≤ 10 := by rw [hL1]; exact uvarint_length64 u1
  have g2 : L2.length ≤ 40000 := by rw [hL2]; exact cmd_len hwc hm
  obtain ⟨A1, hA1, t1, y1, z1⟩ := join L0 L1 (by omega) (by omega)
  obtain ⟨A2, hA2, t2, y2, z2⟩ := join A1 L2 (by omega) (by omega)
  have hfin : reqB ⟨cl, nu, c⟩ = A2 := by
    unfold reqB
    rw [← hL0, ← hL1, ← hL2, ← List.append_assoc, ← hA1, ← hA2]
  rw [hfin]
  have C0 := Lib.hid (show ∀ W, Calls Try.prog 23 #[.int .u64 cl] W fun e w' => e = .returned (T L0) ∧ Below W.heap.size W w' from by rw [hL0]; exact fun W => ref_num' cl W u0)
  have C1 := Lib.hid (show ∀ W, Calls Try.prog 23 #[.int .u64 nu] W fun e w' => e = .returned (T L1) ∧ Below W.heap.size W w' from by rw [hL1]; exact fun W => ref_num' nu W u1)
  have C2 := Lib.hid (show ∀ W, Below V.heap.size V W → Calls Try.prog 24 #[.agg c.cells] W fun e w' => e = .returned (T L2) ∧ Below W.heap.size W w' from by rw [hL2]; exact fun W h => refCommand_any c hk (Sp.Dp.old (hd.old hb) h) hwc hm)
  have l0 : V.cell? ⟨w.heap.size, 0, none⟩ = some (.int .u64 cl) := (cell_at hx0 (i := 0) rfl).1
  have l1 : V.cell? ⟨w.heap.size, 1, none⟩ = some (.int .u64 nu) := (cell_at hx0 (i := 1) rfl).1
  have hrg : V.rangeAt w.heap.size 2 c.cells.toList := range_mid hx0 (fun j v hj => by
    have hj' : j < 16 := (List.getElem?_eq_some_iff.1 hj).1
    rw [← hj]
    match j, hj' with
    | 0, _ | 1, _ | 2, _ | 3, _ | 4, _ | 5, _ | 6, _ | 7, _ | 8, _ | 9, _ | 10, _ | 11, _ | 12, _ | 13, _ | 14, _ | 15, _ => rfl)
  have cl' : ∀ (i : Nat) (v : Value), V.cell? ⟨w.heap.size, i, none⟩ = some v → ∀ X, Below V.heap.size V X → X.cell? ⟨w.heap.size, i, none⟩ = some v := fun i v h X hX => (hX.cell (p := ⟨w.heap.size, i, none⟩) hs).trans h
  have HB := Lib.hid hb
  clear hL0 hL1 hL2 hA1 hA2 y1 y2 g0 g1 g2 hfin hb hd hwc hm hk hx0
  unfold Req.cells at hV ⊢
  simp only at hV ⊢
  go_enter Try.func9, Try.ntmps9
  go_wp2_with fail
  rw [← hV]
  have HV := Lib.hid hV
  clear hV
  refine begin' 11 (fun ZZ => Below V.heap.size V ZZ) hmix ((Below.refl _ V).drew) (fun hS0 => ?_)
  refine Ht.takeD 8 (i := 0) ⟨some 3, _, _, _, _, _⟩ (.pointer (some ⟨w.heap.size, 0, none⟩)) rfl (by kernel_rfl) (by kernel_rfl) (by decide) (by kernel_rfl) (by kernel_rfl) (by kernel_rfl) hS0 (Or.inl ⟨by rfl, by (intro X hX; go_simp)⟩) ?_
  simp only [Act.put, List.setIfInBounds_toArray, List.set_cons_zero, List.set_cons_succ]
  refine Ht.takeD 8 (i := 1) ⟨some 4, _, _, _, _, _⟩ (.int .u64 cl) rfl (by kernel_rfl) (by kernel_rfl) (by decide) (by kernel_rfl) (by kernel_rfl) (by kernel_rfl) hS0 (Or.inl ⟨by rfl, by (intro X hX; have := cl' 0 _ l0 X hX; go_simp)⟩) ?_
  simp only [Act.put, List.setIfInBounds_toArray, List.set_cons_zero, List.set_cons_succ]
  refine Ht.takeD 8 (i := 3) ⟨some 6, _, _, _, _, _⟩ (.pointer (some ⟨w.heap.size, 1, none⟩)) rfl (by kernel_rfl) (by kernel_rfl) (by decide) (by kernel_rfl) (by kernel_rfl) (by kernel_rfl) hS0 (Or.inl ⟨by rfl, by (intro X hX; go_simp)⟩) ?_
  simp only [Act.put, List.setIfInBounds_toArray, List.set_cons_zero, List.set_cons_succ]
  refine Ht.takeD 8 (i := 4) ⟨some 7, _, _, _, _, _⟩ (.int .u64 nu) rfl (by kernel_rfl) (by kernel_rfl) (by decide) (by kernel_rfl) (by kernel_rfl) (by kernel_rfl) hS0 (Or.inl ⟨by rfl, by (intro X hX; have := cl' 1 _ l1 X hX; go_simp)⟩) ?_
  simp only [Act.put, List.setIfInBounds_toArray, List.set_cons_zero, List.set_cons_succ]
  refine Ht.takeD 8 (i := 7) ⟨some 10, _, _, _, _, _⟩ (.pointer (some ⟨w.heap.size, 2, none⟩)) rfl (by kernel_rfl) (by kernel_rfl) (by decide) (by kernel_rfl) (by kernel_rfl) (by kernel_rfl) hS0 (Or.inl ⟨by rfl, by (intro X hX; go_simp)⟩) ?_
  simp only [Act.put, List.setIfInBounds_toArray, List.set_cons_zero, List.set_cons_succ]
  refine Ht.takeD 8 (i := 8) ⟨some 11, _, _, _, _, _⟩ (.agg c.cells) rfl (by kernel_rfl) (by kernel_rfl) (by decide) (by kernel_rfl) (by kernel_rfl) (by kernel_rfl) hS0 (yieldsIf_load_mid (by rfl) 29 _ rfl (w.heap.size) 2 rfl c.cells.toList _ (fun X hX => range_old hrg hX) Try.underlying29 rfl info_cmd2) ?_
  simp only [Act.put, List.setIfInBounds_toArray, List.set_cons_zero, List.set_cons_succ]
  refine Ht.step (i := 2) ⟨some 5, _, _, _, _, _⟩ rfl (by kernel_rfl) (by rfl) (fun K hK => ?_)
  refine Ht.enter 23 #[.int .u64 cl] (by have hen := fun args w => enters_of (P := Try.prog) Try.func23 (by kernel_rfl) rfl args w; go_simp) (C0.out _) ?_
  rintro e v1 ⟨rfl, b1⟩
  have B1 := Lib.hid b1
  have q1 : Below V.heap.size V v1 := hS0.trans (B1.out.mono hS0.size)
  clear b1
  refine ⟨_, rfl, hK _ _ (fun hn => q1) (fun hnx => ?_)⟩
  clear hK K hnx
  try simp only [Act.put, List.setIfInBounds_toArray, List.set_cons_zero, List.set_cons_succ]
  refine Ht.step (i := 5) ⟨some 8, _, _, _, _, _⟩ rfl (by kernel_rfl) (by rfl) (fun K hK => ?_)
  refine Ht.enter 23 #[.int .u64 nu] (by have hen := fun args w => enters_of (P := Try.prog) Try.func23 (by kernel_rfl) rfl args w; go_simp) (C1.out _) ?_
  rintro e v2 ⟨rfl, b2⟩
  have B2 := Lib.hid b2
  have q2 : Below V.heap.size V v2 := q1.trans (B2.out.mono q1.size)
  clear b2
  refine ⟨_, rfl, hK _ _ (fun hn => q2) (fun hnx => ?_)⟩
  clear hK K hnx
  try simp only [Act.put, List.setIfInBounds_toArray, List.set_cons_zero, List.set_cons_succ]
  refine Ht.takeD 8 (i := 6) ⟨some 9, _, _, _, _, _⟩ (T A1) rfl (by kernel_rfl) (by kernel_rfl) (by decide) (by kernel_rfl) (by kernel_rfl) (by kernel_rfl) q2 (Or.inl ⟨by rfl, by (intro X hX; have := And.intro t1 z1; go_simp)⟩) ?_
  simp only [Act.put, List.setIfInBounds_toArray, List.set_cons_zero, List.set_cons_succ]
  refine Ht.step (i := 9) ⟨some 12, _, _, _, _, _⟩ rfl (by kernel_rfl) (by rfl) (fun K hK => ?_)
  refine Ht.enter 24 #[.agg c.cells] (by have hen := fun args w => enters_of (P := Try.prog) Try.func24 (by kernel_rfl) rfl args w; go_simp) (C2.out _ q2) ?_
  rintro e v3 ⟨rfl, b3⟩
  have B3 := Lib.hid b3
  have q3 : Below V.heap.size V v3 := q2.trans (B3.out.mono q2.size)
  clear b3
  refine ⟨_, rfl, hK _ _ (fun hn => q3) (fun hnx => ?_)⟩
  clear hK K hnx
  try simp only [Act.put, List.setIfInBounds_toArray, List.set_cons_zero, List.set_cons_succ]
  refine Ht.takeD 8 (i := 10) ⟨some 13, _, _, _, _, _⟩ (T A2) rfl (by kernel_rfl) (by kernel_rfl) (by decide) (by kernel_rfl) (by kernel_rfl) (by kernel_rfl) q3 (Or.inl ⟨by rfl, by (intro X hX; have := And.intro t2 z2; go_simp)⟩) ?_
  simp only [Act.put, List.setIfInBounds_toArray, List.set_cons_zero, List.set_cons_succ]
  refine Ht.step (i := 11) ⟨some 2, _, _, _, _, _⟩ rfl (by kernel_rfl) (by rfl) (fun K hK => ?_)
  go_simp
  refine hK _ _ (fun hn => absurd rfl hn) (fun hnx => ?_)
  clear hK K hnx
  try simp only [Act.put, List.setIfInBounds_toArray, List.set_cons_zero, List.set_cons_succ]
  refine done (by kernel_rfl) ?_
  have Q := Lib.hid (HB.out.trans (q3.mono HB.out.size))
  clear hS0 q1 q2 q3 t1 t2 z1 z2 cl'
  go_wp2_with fail
  go_ret
  exact ⟨rfl, Q.out⟩
theorem few_any (c : Cmd) {w : World} (hd : Sp.Dp w c.sp.a c.sp.n c.sp.ds) (hn : c.sp.n ≤ maxLen) :
    Calls Try.prog 15 #[.agg c.cells] w fun e w' => ∃ r : Bool, e = .returned (.bool r) ∧ (r = true → c.med) ∧ Below w.heap.size w w' := by
  obtain ⟨V, hV⟩ : ∃ V, V = w.alloc (.cells c.cells 29) := ⟨_, rfl⟩
  have hb : Below w.heap.size w V := by rw [hV]; exact (Below.refl _ w).alloc (Nat.le_refl _) _
  have hx0 : V.heap[w.heap.size]? = some (.cells c.cells 29 (0, 0)) := by rw [hV]; exact heap_alloc_new w _
  have H := Lib.hid (Sp.Few_any c.sp (w := V) (hd.old hb) hn)
  have hl := Lib.hid hd.1
  obtain ⟨kd, nm, wk, tk, vl, x⟩ := c
  simp only at hd hn H hl ⊢
  have HB := Lib.hid hb
  unfold Cmd.cells at hx0
  simp only at hx0
  have c0 := (cell_at hx0 (i := 0) rfl).1
  have c1 := (cell_at hx0 (i := 1) rfl).1
  have c2 := (cell_at hx0 (i := 2) rfl).1
  have c3 := (cell_at hx0 (i := 3) rfl).1
  have c4 := (cell_at hx0 (i := 4) rfl).1
  have c5 := (cell_at hx0 (i := 5) rfl).1
  have c6 := (cell_at hx0 (i := 6) rfl).1
  have c7 := (cell_at hx0 (i := 7) rfl).1
  have c8 := (cell_at hx0 (i := 8) rfl).1
  have c9 := (cell_at hx0 (i := 9) rfl).1
  have c10 := (cell_at hx0 (i := 10) rfl).1
  have c11 := (cell_at hx0 (i := 11) rfl).1
  have c12 := (cell_at hx0 (i := 12) rfl).1
  have c13 := (cell_at hx0 (i := 13) rfl).1
  have c14 := (cell_at hx0 (i := 14) rfl).1
  have c15 := (cell_at hx0 (i := 15) rfl).1
  clear hx0 hb hd
  unfold Cmd.cells at hV ⊢
  simp only at hV ⊢
  go_enter Try.func15, Try.ntmps15
  go_upto_region 1 with fail
  rw [← hV]
  have HV := Lib.hid hV
  clear hV
  by_cases h1 : nm.size ≤ 600
  · by_cases h2 : wk.size ≤ 600
    · go_wp2_with fail
      refine H.out.mono ?_
      rintro e W ⟨r, rfl, hr, hb2⟩
      have HR := Lib.hid (And.intro hr (HB.out.trans (hb2.mono HB.out.size)))
      clear hr hb2 H
      go_wp2_with fail
      go_ret
      exact ⟨_, rfl, fun h => ⟨by show nm.size ≤ 1000; omega, by show wk.size ≤ 1000; omega, (HR.out.1 h).med hl.out⟩, HR.out.2⟩
    · go_wp2_with fail
      go_ret
      first | exact .inl ⟨rfl, HB.out⟩ | exact ⟨false, rfl, (fun h => by cases h), HB.out⟩ | exact ⟨rfl, HB.out⟩
  · go_wp2_with fail
    go_ret
    first | exact .inl ⟨rfl, HB.out⟩ | exact ⟨false, rfl, (fun h => by cases h), HB.out⟩ | exact ⟨rfl, HB.out⟩
end Go.Proofs.Ytfidmjpjfigmcaa.Cm
