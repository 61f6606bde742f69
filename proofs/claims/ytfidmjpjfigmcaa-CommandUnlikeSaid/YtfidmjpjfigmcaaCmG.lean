
/- commands as bytes: the document's -/
import Derived.Test.YtfidmjpjfigmcaaCmA
import Derived.Test.YtfidmjpjfigmcaaHd
import Derived.BigQuiet
import Derived.Shelf.Abstract
namespace Go.Proofs.Ytfidmjpjfigmcaa.Cm
open Go.RowKit Go.Lib Go.Shelf Wn Rf By Ht
open Sp (T join)
set_option linter.unusedVariables false
set_option maxRecDepth 20000
theorem spec_len {x : Sp.Spc} (hw : x.wf) (hm : x.med) : (Sp.specB x).length ≤ 30000 := by
  obtain ⟨w2, w3, w5, w6, w7, w8, w10⟩ := hw
  obtain ⟨fd, f0, f1, fn, f9, fr⟩ := hm
  unfold Sp.specB Sp.headB Sp.tailB
  simp only [List.length_append]
  have h0 := Sp.text_lenm (s := x.nm) f0
  have h1 := Sp.text_lenm (s := x.tn) f1
  have h2 := Sp.zz_len w2
  have h3 := Sp.zz_len w3
  have h4 := uvarint_length64 (show x.n < 18446744073709551616 by omega)
  have h5 := Sp.zz_len w5
  have h6 := Sp.zz_len w6
  have h7 := Sp.zz_len w7
  have h8 := Sp.zz_len w8
  have h9 := Sp.text_lenm (s := x.cr) f9
  have h10 := Sp.zz_len w10
  omega
set_option maxHeartbeats 8000000 in
theorem refCommand_any (c : Cmd) {w : World} (hk : isK c.kd = true) (hd : Sp.Dp w c.sp.a c.sp.n c.sp.ds) (hwf : c.wf) (hm : c.med) :
    Calls Try.prog 24 #[.agg c.cells] w fun e w' => e = .returned (T (cmdB c)) ∧ Below w.heap.size w w' := by
  have hmix : Try.prog.follows .mixedOrders = true := by kernel_rfl
  have hk' := isK_iff.1 hk
  have tS := tl_spec (c := c)
  have tW := tl_worker (c := c)
  have t2 := tl_two (c := c)
  have t3 := tl_three (c := c)
  have tN := tl_name (c := c)
  have tV := tl_value (c := c)
  have t0 := tl_none (c := c)
  unfold cmdB
  generalize htail : tailC c = tail at *
  clear htail hk
  obtain ⟨kd, nm, wk, tk, vl, ⟨snm, stn, spr, sdl, sa, sn, sc, sds, sbs, scp, sat, sls, scr, sct⟩⟩ := c
  obtain ⟨w0, w1, w2, w3⟩ := hwf
  obtain ⟨m1, m2, m3⟩ := hm
  simp only at hd w0 w1 w2 w3 m1 m2 m3 hk' tS tW t2 t3 tN tV t0 ⊢
  have HT := Lib.hid (And.intro tS (And.intro tW (And.intro t2 (And.intro t3 (And.intro tN (And.intro tV t0))))))
  clear tS tW t2 t3 tN tV t0
  obtain ⟨V, hV⟩ : ∃ V, V = w.alloc (.cells #[.int .i64 kd, .string nm, .string wk, .int .u64 tk, .int .i64 vl, .string snm, .string stn, .int .i64 spr, .int .i64 sdl, .slice sa sn sc, .int .i64 sbs, .int .i64 scp, .int .i64 sat, .int .i64 sls, .string scr, .int .i64 sct] 29) := ⟨_, rfl⟩
  have hb : Below w.heap.size w V := by rw [hV]; exact (Below.refl _ w).alloc (Nat.le_refl _) _
  have hs : w.heap.size < V.heap.size := by rw [hV]; simp
  have hx0 : V.heap[w.heap.size]? = some (.cells #[.int .i64 kd, .string nm, .string wk, .int .u64 tk, .int .i64 vl, .string snm, .string stn, .int .i64 spr, .int .i64 sdl, .slice sa sn sc, .int .i64 sbs, .int .i64 scp, .int .i64 sat, .int .i64 sls, .string scr, .int .i64 sct] 29 (0, 0)) := by rw [hV]; exact heap_alloc_new w _
  obtain ⟨n, hn⟩ : ∃ n : Nat, n = kd.toNat := ⟨_, rfl⟩
  have hkn : IntKind.u64.wrap kd = (n : Int) := by rw [IntKind.wrap_u64]; omega
  have hu : n < 18446744073709551616 := by omega
  obtain ⟨L0, hL0⟩ : ∃ L, L = uvarint n := ⟨_, rfl⟩
  have g0 : L0.length ≤ 10 := by rw [hL0]; exact uvarint_length64 hu
  have HN := Lib.hid (show Calls Try.prog 23 #[.int .u64 n] V fun e w' => e = .returned (T L0) ∧ Below V.heap.size V w' from by rw [hL0]; exact ref_num' n V hu)
  rw [← hn, ← hL0]
  have HD := Lib.hid (And.intro hb (And.intro (hd.old hb) (And.intro w3 m3)))
  have l0 := (cell_at hx0 (i := 0) rfl).1
  have hn' := Lib.hid hn
  clear hn hd w3 m3 hb hL0 hu
  unfold Cmd.cells
  simp only
  go_enter Try.func24, Try.ntmps24
  go_wp2_with fail
  rw [← hV]
  have HV := Lib.hid hV
  clear hV l0
  refine HN.out.mono ?_
  rintro e W ⟨rfl, hb1⟩
  have hx := (hb1.block w.heap.size hs).trans hx0
  have hsW : w.heap.size < W.heap.size := Nat.lt_of_lt_of_le hs hb1.size
  have HB := Lib.hid (And.intro (HD.out.1.trans (hb1.mono HD.out.1.size)) (Sp.Dp.old HD.out.2.1 hb1))
  have c0 := (cell_at hx (i := 0) rfl).1
  have c1 := (cell_at hx (i := 1) rfl).1
  have c2 := (cell_at hx (i := 2) rfl).1
  have c3 := (cell_at hx (i := 3) rfl).1
  have c4 := (cell_at hx (i := 4) rfl).1
  have c5 := (cell_at hx (i := 5) rfl).1
  have c6 := (cell_at hx (i := 6) rfl).1
  have c7 := (cell_at hx (i := 7) rfl).1
  have c8 := (cell_at hx (i := 8) rfl).1
  have c9 := (cell_at hx (i := 9) rfl).1
  have c10 := (cell_at hx (i := 10) rfl).1
  have c11 := (cell_at hx (i := 11) rfl).1
  have c12 := (cell_at hx (i := 12) rfl).1
  have c13 := (cell_at hx (i := 13) rfl).1
  have c14 := (cell_at hx (i := 14) rfl).1
  have c15 := (cell_at hx (i := 15) rfl).1
  have cl : ∀ (i : Nat) (v : Value), W.cell? ⟨w.heap.size, i, none⟩ = some v → ∀ X, Below W.heap.size W X → X.cell? ⟨w.heap.size, i, none⟩ = some v := fun i v h X hX => (hX.cell (p := ⟨w.heap.size, i, none⟩) hsW).trans h
  clear hx0 hx hb1 HN
  have hall : kd = 0 ∨ kd = 1 ∨ kd = 2 ∨ kd = 3 ∨ kd = 4 ∨ kd = 5 ∨ kd = 6 ∨ kd = 7 ∨ kd = 8 ∨ kd = 9 := by omega
  clear hkn hk'
  rcases hall with rfl | rfl | rfl | rfl | rfl | rfl | rfl | rfl | rfl | rfl
  · have HTT := Lib.hid (HT.out.2.2.2.2.2.2 (Or.inl (by decide)))
    clear HT
    clear cl
    go_wp2_with fail
    go_ret
    exact ⟨by rw [HTT.out, List.append_nil]; rfl, HB.out.1⟩
  · have HTT := Lib.hid (HT.out.1 rfl)
    clear HT
    obtain ⟨L1, hL1⟩ : ∃ L, L = Sp.specB ⟨snm, stn, spr, sdl, sa, sn, sc, sds, sbs, scp, sat, sls, scr, sct⟩ := ⟨_, rfl⟩
    have g1 : L1.length ≤ 30000 := by rw [hL1]; exact spec_len HD.out.2.2.1 HD.out.2.2.2
    have HC := Lib.hid (show Calls Try.prog 22 #[.agg #[.string snm, .string stn, .int .i64 spr, .int .i64 sdl, .slice sa sn sc, .int .i64 sbs, .int .i64 scp, .int .i64 sat, .int .i64 sls, .string scr, .int .i64 sct]] W fun e w' => e = .returned (T L1) ∧ Below W.heap.size W w' from by rw [hL1]; exact (Sp.Bytes_med ⟨snm, stn, spr, sdl, sa, sn, sc, sds, sbs, scp, sat, sls, scr, sct⟩ (w := W) HB.out.2 HD.out.2.2.1 HD.out.2.2.2))
    obtain ⟨A1, hA1, t1, y1, z1⟩ := join L0 L1 (by omega) (by omega)
    have HA := Lib.hid (And.intro hA1 hL1)
    clear hA1 hL1 y1 cl
    go_wp2_with fail
    refine HC.out.mono ?_
    rintro e W2 ⟨rfl, hb2⟩
    have B2 := Lib.hid (HB.out.1.trans (hb2.mono HB.out.1.size))
    clear hb2 HC
    go_wp2_with fail
    go_ret
    exact ⟨by rw [HTT.out, ← HA.out.2, ← HA.out.1]; rfl, B2.out⟩
  · have HTT := Lib.hid (HT.out.2.1 rfl)
    clear HT
    obtain ⟨L1, hL1⟩ : ∃ L, L = textB wk := ⟨_, rfl⟩
    have g1 : L1.length ≤ 1010 := by
      rw [hL1]
      have := Sp.text_lenm (s := wk) (by omega)
      omega
    have HC := Lib.hid (show Calls Try.prog 43 #[.string wk] W fun e w' => e = .returned (T L1) ∧ Below W.heap.size W w' from by rw [hL1]; exact (ref_text wk W (by omega)))
    obtain ⟨A1, hA1, t1, y1, z1⟩ := join L0 L1 (by omega) (by omega)
    have HA := Lib.hid (And.intro hA1 hL1)
    clear hA1 hL1 y1 cl
    go_wp2_with fail
    refine HC.out.mono ?_
    rintro e W2 ⟨rfl, hb2⟩
    have B2 := Lib.hid (HB.out.1.trans (hb2.mono HB.out.1.size))
    clear hb2 HC
    go_wp2_with fail
    go_ret
    exact ⟨by rw [HTT.out, ← HA.out.2, ← HA.out.1]; rfl, B2.out⟩
  · have HTT := Lib.hid (HT.out.2.2.1 (Or.inl rfl))
    clear HT
    obtain ⟨L1, hL1⟩ : ∃ L, L = textB nm := ⟨_, rfl⟩
    obtain ⟨L2, hL2⟩ : ∃ L, L = uvarint tk := ⟨_, rfl⟩
    obtain ⟨L3, hL3⟩ : ∃ L, L = Sp.zz vl := ⟨_, rfl⟩
    have g1 : L1.length ≤ 1010 := by
      rw [hL1]
      exact Sp.text_lenm (s := nm) (by omega)
    have g2 : L2.length ≤ 10 := by rw [hL2]; exact uvarint_length64 w1
    have g3 : L3.length ≤ 10 := by rw [hL3]; exact Sp.zz_len w2
    have C1 := Lib.hid (show ∀ W, Calls Try.prog 43 #[.string nm] W fun e w' => e = .returned (T L1) ∧ Below W.heap.size W w' from by rw [hL1]; exact fun W => ref_text nm W (by omega))
    have C2 := Lib.hid (show ∀ W, Calls Try.prog 23 #[.int .u64 tk] W fun e w' => e = .returned (T L2) ∧ Below W.heap.size W w' from by rw [hL2]; exact fun W => ref_num' tk W w1)
    have C3 := Lib.hid (show ∀ W, Calls Try.prog 44 #[.int .i64 vl] W fun e w' => e = .returned (T L3) ∧ Below W.heap.size W w' from by rw [hL3]; exact fun W => ref_int vl W w2)
    obtain ⟨A1, hA1, t1, y1, z1⟩ := join L0 L1 (by omega) (by omega)
    obtain ⟨A2, hA2, t2, y2, z2⟩ := join A1 L2 (by omega) (by omega)
    obtain ⟨A3, hA3, t3, y3, z3⟩ := join A2 L3 (by omega) (by omega)
    have HA := Lib.hid (And.intro hA1 (And.intro hA2 (And.intro hA3 (And.intro hL1 (And.intro hL2 hL3)))))
    clear hA1 hA2 hA3 hL1 hL2 hL3 y1 y2 y3 g0 g1 g2 g3
    go_wp2_with fail
    refine begin' 9 (fun ZZ => Below W.heap.size W ZZ) hmix ((Below.refl _ W).drew) (fun hS0 => ?_)
    refine Ht.takeD 8 (i := 0) ⟨some 27, _, _, _, _, _⟩ (T L0) rfl (by kernel_rfl) (by kernel_rfl) (by decide) (by kernel_rfl) (by kernel_rfl) (by kernel_rfl) hS0 (Or.inl ⟨by rfl, by (intro X hX; go_simp)⟩) ?_
    simp only [Act.put, List.setIfInBounds_toArray, List.set_cons_zero, List.set_cons_succ]
    refine Ht.takeD 8 (i := 1) ⟨some 28, _, _, _, _, _⟩ (.pointer (some ⟨w.heap.size, 1, none⟩)) rfl (by kernel_rfl) (by kernel_rfl) (by decide) (by kernel_rfl) (by kernel_rfl) (by kernel_rfl) hS0 (Or.inl ⟨by rfl, by (intro X hX; go_simp)⟩) ?_
    simp only [Act.put, List.setIfInBounds_toArray, List.set_cons_zero, List.set_cons_succ]
    refine Ht.takeD 8 (i := 2) ⟨some 29, _, _, _, _, _⟩ (.string nm) rfl (by kernel_rfl) (by kernel_rfl) (by decide) (by kernel_rfl) (by kernel_rfl) (by kernel_rfl) hS0 (Or.inl ⟨by rfl, by (intro X hX; have := cl 1 _ c1 X hX; go_simp)⟩) ?_
    simp only [Act.put, List.setIfInBounds_toArray, List.set_cons_zero, List.set_cons_succ]
    refine Ht.takeD 8 (i := 5) ⟨some 32, _, _, _, _, _⟩ (.pointer (some ⟨w.heap.size, 3, none⟩)) rfl (by kernel_rfl) (by kernel_rfl) (by decide) (by kernel_rfl) (by kernel_rfl) (by kernel_rfl) hS0 (Or.inl ⟨by rfl, by (intro X hX; go_simp)⟩) ?_
    simp only [Act.put, List.setIfInBounds_toArray, List.set_cons_zero, List.set_cons_succ]
    refine Ht.takeD 8 (i := 6) ⟨some 33, _, _, _, _, _⟩ (.int .u64 tk) rfl (by kernel_rfl) (by kernel_rfl) (by decide) (by kernel_rfl) (by kernel_rfl) (by kernel_rfl) hS0 (Or.inl ⟨by rfl, by (intro X hX; have := cl 3 _ c3 X hX; go_simp)⟩) ?_
    simp only [Act.put, List.setIfInBounds_toArray, List.set_cons_zero, List.set_cons_succ]
    refine Ht.step (i := 3) ⟨some 30, _, _, _, _, _⟩ rfl (by kernel_rfl) (by rfl) (fun K hK => ?_)
    refine Ht.enter 43 #[.string nm] (by have hen := fun args w => enters_of (P := Try.prog) Try.func43 (by kernel_rfl) rfl args w; go_simp) (C1.out _) ?_
    rintro e v1 ⟨rfl, b1⟩
    have B1 := Lib.hid b1
    have q1 : Below W.heap.size W v1 := hS0.trans (B1.out.mono hS0.size)
    clear b1
    refine ⟨_, rfl, hK _ _ (fun hn => q1) (fun hnx => ?_)⟩
    clear hK K hnx
    try simp only [Act.put, List.setIfInBounds_toArray, List.set_cons_zero, List.set_cons_succ]
    refine Ht.takeD 8 (i := 4) ⟨some 31, _, _, _, _, _⟩ (T A1) rfl (by kernel_rfl) (by kernel_rfl) (by decide) (by kernel_rfl) (by kernel_rfl) (by kernel_rfl) q1 (Or.inl ⟨by rfl, by (intro X hX; have := And.intro t1 z1; go_simp)⟩) ?_
    simp only [Act.put, List.setIfInBounds_toArray, List.set_cons_zero, List.set_cons_succ]
    refine Ht.step (i := 7) ⟨some 34, _, _, _, _, _⟩ rfl (by kernel_rfl) (by rfl) (fun K hK => ?_)
    refine Ht.enter 23 #[.int .u64 tk] (by have hen := fun args w => enters_of (P := Try.prog) Try.func23 (by kernel_rfl) rfl args w; go_simp) (C2.out _) ?_
    rintro e v2 ⟨rfl, b2⟩
    have B2 := Lib.hid b2
    have q2 : Below W.heap.size W v2 := q1.trans (B2.out.mono q1.size)
    clear b2
    refine ⟨_, rfl, hK _ _ (fun hn => q2) (fun hnx => ?_)⟩
    clear hK K hnx
    try simp only [Act.put, List.setIfInBounds_toArray, List.set_cons_zero, List.set_cons_succ]
    refine Ht.takeD 8 (i := 8) ⟨some 35, _, _, _, _, _⟩ (T A2) rfl (by kernel_rfl) (by kernel_rfl) (by decide) (by kernel_rfl) (by kernel_rfl) (by kernel_rfl) q2 (Or.inl ⟨by rfl, by (intro X hX; have := And.intro t2 z2; go_simp)⟩) ?_
    simp only [Act.put, List.setIfInBounds_toArray, List.set_cons_zero, List.set_cons_succ]
    refine Ht.step (i := 9) ⟨some 2, _, _, _, _, _⟩ rfl (by kernel_rfl) (by rfl) (fun K hK => ?_)
    go_simp
    refine hK _ _ (fun hn => absurd rfl hn) (fun hnx => ?_)
    clear hK K hnx
    try simp only [Act.put, List.setIfInBounds_toArray, List.set_cons_zero, List.set_cons_succ]
    refine done (by kernel_rfl) ?_
    have Q := Lib.hid (HB.out.1.trans (q2.mono HB.out.1.size))
    clear hS0 q1 q2 t1 t2 t3 z1 z2 z3 cl
    go_wp2_with fail
    go_ret
    exact ⟨by rw [HTT.out, ← HA.out.2.2.2.1, ← HA.out.2.2.2.2.1, ← List.append_assoc, ← HA.out.1, ← HA.out.2.1]; rfl, Q.out⟩
  · have HTT := Lib.hid (HT.out.2.2.2.1 rfl)
    clear HT
    obtain ⟨L1, hL1⟩ : ∃ L, L = textB nm := ⟨_, rfl⟩
    obtain ⟨L2, hL2⟩ : ∃ L, L = uvarint tk := ⟨_, rfl⟩
    obtain ⟨L3, hL3⟩ : ∃ L, L = Sp.zz vl := ⟨_, rfl⟩
    have g1 : L1.length ≤ 1010 := by
      rw [hL1]
      exact Sp.text_lenm (s := nm) (by omega)
    have g2 : L2.length ≤ 10 := by rw [hL2]; exact uvarint_length64 w1
    have g3 : L3.length ≤ 10 := by rw [hL3]; exact Sp.zz_len w2
    have C1 := Lib.hid (show ∀ W, Calls Try.prog 43 #[.string nm] W fun e w' => e = .returned (T L1) ∧ Below W.heap.size W w' from by rw [hL1]; exact fun W => ref_text nm W (by omega))
    have C2 := Lib.hid (show ∀ W, Calls Try.prog 23 #[.int .u64 tk] W fun e w' => e = .returned (T L2) ∧ Below W.heap.size W w' from by rw [hL2]; exact fun W => ref_num' tk W w1)
    have C3 := Lib.hid (show ∀ W, Calls Try.prog 44 #[.int .i64 vl] W fun e w' => e = .returned (T L3) ∧ Below W.heap.size W w' from by rw [hL3]; exact fun W => ref_int vl W w2)
    obtain ⟨A1, hA1, t1, y1, z1⟩ := join L0 L1 (by omega) (by omega)
    obtain ⟨A2, hA2, t2, y2, z2⟩ := join A1 L2 (by omega) (by omega)
    obtain ⟨A3, hA3, t3, y3, z3⟩ := join A2 L3 (by omega) (by omega)
    have HA := Lib.hid (And.intro hA1 (And.intro hA2 (And.intro hA3 (And.intro hL1 (And.intro hL2 hL3)))))
    clear hA1 hA2 hA3 hL1 hL2 hL3 y1 y2 y3 g0 g1 g2 g3
    go_wp2_with fail
    refine begin' 13 (fun ZZ => Below W.heap.size W ZZ) hmix ((Below.refl _ W).drew) (fun hS0 => ?_)
    refine Ht.takeD 8 (i := 0) ⟨some 38, _, _, _, _, _⟩ (T L0) rfl (by kernel_rfl) (by kernel_rfl) (by decide) (by kernel_rfl) (by kernel_rfl) (by kernel_rfl) hS0 (Or.inl ⟨by rfl, by (intro X hX; go_simp)⟩) ?_
    simp only [Act.put, List.setIfInBounds_toArray, List.set_cons_zero, List.set_cons_succ]
    refine Ht.takeD 8 (i := 1) ⟨some 39, _, _, _, _, _⟩ (.pointer (some ⟨w.heap.size, 1, none⟩)) rfl (by kernel_rfl) (by kernel_rfl) (by decide) (by kernel_rfl) (by kernel_rfl) (by kernel_rfl) hS0 (Or.inl ⟨by rfl, by (intro X hX; go_simp)⟩) ?_
    simp only [Act.put, List.setIfInBounds_toArray, List.set_cons_zero, List.set_cons_succ]
    refine Ht.takeD 8 (i := 2) ⟨some 40, _, _, _, _, _⟩ (.string nm) rfl (by kernel_rfl) (by kernel_rfl) (by decide) (by kernel_rfl) (by kernel_rfl) (by kernel_rfl) hS0 (Or.inl ⟨by rfl, by (intro X hX; have := cl 1 _ c1 X hX; go_simp)⟩) ?_
    simp only [Act.put, List.setIfInBounds_toArray, List.set_cons_zero, List.set_cons_succ]
    refine Ht.takeD 8 (i := 5) ⟨some 43, _, _, _, _, _⟩ (.pointer (some ⟨w.heap.size, 3, none⟩)) rfl (by kernel_rfl) (by kernel_rfl) (by decide) (by kernel_rfl) (by kernel_rfl) (by kernel_rfl) hS0 (Or.inl ⟨by rfl, by (intro X hX; go_simp)⟩) ?_
    simp only [Act.put, List.setIfInBounds_toArray, List.set_cons_zero, List.set_cons_succ]
    refine Ht.takeD 8 (i := 6) ⟨some 44, _, _, _, _, _⟩ (.int .u64 tk) rfl (by kernel_rfl) (by kernel_rfl) (by decide) (by kernel_rfl) (by kernel_rfl) (by kernel_rfl) hS0 (Or.inl ⟨by rfl, by (intro X hX; have := cl 3 _ c3 X hX; go_simp)⟩) ?_
    simp only [Act.put, List.setIfInBounds_toArray, List.set_cons_zero, List.set_cons_succ]
    refine Ht.takeD 8 (i := 9) ⟨some 47, _, _, _, _, _⟩ (.pointer (some ⟨w.heap.size, 4, none⟩)) rfl (by kernel_rfl) (by kernel_rfl) (by decide) (by kernel_rfl) (by kernel_rfl) (by kernel_rfl) hS0 (Or.inl ⟨by rfl, by (intro X hX; go_simp)⟩) ?_
    simp only [Act.put, List.setIfInBounds_toArray, List.set_cons_zero, List.set_cons_succ]
    refine Ht.takeD 8 (i := 10) ⟨some 48, _, _, _, _, _⟩ (.int .i64 vl) rfl (by kernel_rfl) (by kernel_rfl) (by decide) (by kernel_rfl) (by kernel_rfl) (by kernel_rfl) hS0 (Or.inl ⟨by rfl, by (intro X hX; have := cl 4 _ c4 X hX; go_simp)⟩) ?_
    simp only [Act.put, List.setIfInBounds_toArray, List.set_cons_zero, List.set_cons_succ]
    refine Ht.step (i := 3) ⟨some 41, _, _, _, _, _⟩ rfl (by kernel_rfl) (by rfl) (fun K hK => ?_)
    refine Ht.enter 43 #[.string nm] (by have hen := fun args w => enters_of (P := Try.prog) Try.func43 (by kernel_rfl) rfl args w; go_simp) (C1.out _) ?_
    rintro e v1 ⟨rfl, b1⟩
    have B1 := Lib.hid b1
    have q1 : Below W.heap.size W v1 := hS0.trans (B1.out.mono hS0.size)
    clear b1
    refine ⟨_, rfl, hK _ _ (fun hn => q1) (fun hnx => ?_)⟩
    clear hK K hnx
    try simp only [Act.put, List.setIfInBounds_toArray, List.set_cons_zero, List.set_cons_succ]
    refine Ht.takeD 8 (i := 4) ⟨some 42, _, _, _, _, _⟩ (T A1) rfl (by kernel_rfl) (by kernel_rfl) (by decide) (by kernel_rfl) (by kernel_rfl) (by kernel_rfl) q1 (Or.inl ⟨by rfl, by (intro X hX; have := And.intro t1 z1; go_simp)⟩) ?_
    simp only [Act.put, List.setIfInBounds_toArray, List.set_cons_zero, List.set_cons_succ]
    refine Ht.step (i := 7) ⟨some 45, _, _, _, _, _⟩ rfl (by kernel_rfl) (by rfl) (fun K hK => ?_)
    refine Ht.enter 23 #[.int .u64 tk] (by have hen := fun args w => enters_of (P := Try.prog) Try.func23 (by kernel_rfl) rfl args w; go_simp) (C2.out _) ?_
    rintro e v2 ⟨rfl, b2⟩
    have B2 := Lib.hid b2
    have q2 : Below W.heap.size W v2 := q1.trans (B2.out.mono q1.size)
    clear b2
    refine ⟨_, rfl, hK _ _ (fun hn => q2) (fun hnx => ?_)⟩
    clear hK K hnx
    try simp only [Act.put, List.setIfInBounds_toArray, List.set_cons_zero, List.set_cons_succ]
    refine Ht.takeD 8 (i := 8) ⟨some 46, _, _, _, _, _⟩ (T A2) rfl (by kernel_rfl) (by kernel_rfl) (by decide) (by kernel_rfl) (by kernel_rfl) (by kernel_rfl) q2 (Or.inl ⟨by rfl, by (intro X hX; have := And.intro t2 z2; go_simp)⟩) ?_
    simp only [Act.put, List.setIfInBounds_toArray, List.set_cons_zero, List.set_cons_succ]
    refine Ht.step (i := 11) ⟨some 49, _, _, _, _, _⟩ rfl (by kernel_rfl) (by rfl) (fun K hK => ?_)
    refine Ht.enter 44 #[.int .i64 vl] (by have hen := fun args w => enters_of (P := Try.prog) Try.func44 (by kernel_rfl) rfl args w; go_simp) (C3.out _) ?_
    rintro e v3 ⟨rfl, b3⟩
    have B3 := Lib.hid b3
    have q3 : Below W.heap.size W v3 := q2.trans (B3.out.mono q2.size)
    clear b3
    refine ⟨_, rfl, hK _ _ (fun hn => q3) (fun hnx => ?_)⟩
    clear hK K hnx
    try simp only [Act.put, List.setIfInBounds_toArray, List.set_cons_zero, List.set_cons_succ]
    refine Ht.takeD 8 (i := 12) ⟨some 50, _, _, _, _, _⟩ (T A3) rfl (by kernel_rfl) (by kernel_rfl) (by decide) (by kernel_rfl) (by kernel_rfl) (by kernel_rfl) q3 (Or.inl ⟨by rfl, by (intro X hX; have := And.intro t3 z3; go_simp)⟩) ?_
    simp only [Act.put, List.setIfInBounds_toArray, List.set_cons_zero, List.set_cons_succ]
    refine Ht.step (i := 13) ⟨some 2, _, _, _, _, _⟩ rfl (by kernel_rfl) (by rfl) (fun K hK => ?_)
    go_simp
    refine hK _ _ (fun hn => absurd rfl hn) (fun hnx => ?_)
    clear hK K hnx
    try simp only [Act.put, List.setIfInBounds_toArray, List.set_cons_zero, List.set_cons_succ]
    refine done (by kernel_rfl) ?_
    have Q := Lib.hid (HB.out.1.trans (q3.mono HB.out.1.size))
    clear hS0 q1 q2 q3 t1 t2 t3 z1 z2 z3 cl
    go_wp2_with fail
    go_ret
    exact ⟨by rw [HTT.out, ← HA.out.2.2.2.1, ← HA.out.2.2.2.2.1, ← HA.out.2.2.2.2.2, ← List.append_assoc, ← List.append_assoc, ← HA.out.1, ← HA.out.2.1, ← HA.out.2.2.1]; rfl, Q.out⟩
  · have HTT := Lib.hid (HT.out.2.2.1 (Or.inr rfl))
    clear HT
    obtain ⟨L1, hL1⟩ : ∃ L, L = textB nm := ⟨_, rfl⟩
    obtain ⟨L2, hL2⟩ : ∃ L, L = uvarint tk := ⟨_, rfl⟩
    obtain ⟨L3, hL3⟩ : ∃ L, L = Sp.zz vl := ⟨_, rfl⟩
    have g1 : L1.length ≤ 1010 := by
      rw [hL1]
      exact Sp.text_lenm (s := nm) (by omega)
    have g2 : L2.length ≤ 10 := by rw [hL2]; exact uvarint_length64 w1
    have g3 : L3.length ≤ 10 := by rw [hL3]; exact Sp.zz_len w2
    have C1 := Lib.hid (show ∀ W, Calls Try.prog 43 #[.string nm] W fun e w' => e = .returned (T L1) ∧ Below W.heap.size W w' from by rw [hL1]; exact fun W => ref_text nm W (by omega))
    have C2 := Lib.hid (show ∀ W, Calls Try.prog 23 #[.int .u64 tk] W fun e w' => e = .returned (T L2) ∧ Below W.heap.size W w' from by rw [hL2]; exact fun W => ref_num' tk W w1)
    have C3 := Lib.hid (show ∀ W, Calls Try.prog 44 #[.int .i64 vl] W fun e w' => e = .returned (T L3) ∧ Below W.heap.size W w' from by rw [hL3]; exact fun W => ref_int vl W w2)
    obtain ⟨A1, hA1, t1, y1, z1⟩ := join L0 L1 (by omega) (by omega)
    obtain ⟨A2, hA2, t2, y2, z2⟩ := join A1 L2 (by omega) (by omega)
    obtain ⟨A3, hA3, t3, y3, z3⟩ := join A2 L3 (by omega) (by omega)
    have HA := Lib.hid (And.intro hA1 (And.intro hA2 (And.intro hA3 (And.intro hL1 (And.intro hL2 hL3)))))
    clear hA1 hA2 hA3 hL1 hL2 hL3 y1 y2 y3 g0 g1 g2 g3
    go_wp2_with fail
    refine begin' 9 (fun ZZ => Below W.heap.size W ZZ) hmix ((Below.refl _ W).drew) (fun hS0 => ?_)
    refine Ht.takeD 8 (i := 0) ⟨some 27, _, _, _, _, _⟩ (T L0) rfl (by kernel_rfl) (by kernel_rfl) (by decide) (by kernel_rfl) (by kernel_rfl) (by kernel_rfl) hS0 (Or.inl ⟨by rfl, by (intro X hX; go_simp)⟩) ?_
    simp only [Act.put, List.setIfInBounds_toArray, List.set_cons_zero, List.set_cons_succ]
    refine Ht.takeD 8 (i := 1) ⟨some 28, _, _, _, _, _⟩ (.pointer (some ⟨w.heap.size, 1, none⟩)) rfl (by kernel_rfl) (by kernel_rfl) (by decide) (by kernel_rfl) (by kernel_rfl) (by kernel_rfl) hS0 (Or.inl ⟨by rfl, by (intro X hX; go_simp)⟩) ?_
    simp only [Act.put, List.setIfInBounds_toArray, List.set_cons_zero, List.set_cons_succ]
    refine Ht.takeD 8 (i := 2) ⟨some 29, _, _, _, _, _⟩ (.string nm) rfl (by kernel_rfl) (by kernel_rfl) (by decide) (by kernel_rfl) (by kernel_rfl) (by kernel_rfl) hS0 (Or.inl ⟨by rfl, by (intro X hX; have := cl 1 _ c1 X hX; go_simp)⟩) ?_
    simp only [Act.put, List.setIfInBounds_toArray, List.set_cons_zero, List.set_cons_succ]
    refine Ht.takeD 8 (i := 5) ⟨some 32, _, _, _, _, _⟩ (.pointer (some ⟨w.heap.size, 3, none⟩)) rfl (by kernel_rfl) (by kernel_rfl) (by decide) (by kernel_rfl) (by kernel_rfl) (by kernel_rfl) hS0 (Or.inl ⟨by rfl, by (intro X hX; go_simp)⟩) ?_
    simp only [Act.put, List.setIfInBounds_toArray, List.set_cons_zero, List.set_cons_succ]
    refine Ht.takeD 8 (i := 6) ⟨some 33, _, _, _, _, _⟩ (.int .u64 tk) rfl (by kernel_rfl) (by kernel_rfl) (by decide) (by kernel_rfl) (by kernel_rfl) (by kernel_rfl) hS0 (Or.inl ⟨by rfl, by (intro X hX; have := cl 3 _ c3 X hX; go_simp)⟩) ?_
    simp only [Act.put, List.setIfInBounds_toArray, List.set_cons_zero, List.set_cons_succ]
    refine Ht.step (i := 3) ⟨some 30, _, _, _, _, _⟩ rfl (by kernel_rfl) (by rfl) (fun K hK => ?_)
    refine Ht.enter 43 #[.string nm] (by have hen := fun args w => enters_of (P := Try.prog) Try.func43 (by kernel_rfl) rfl args w; go_simp) (C1.out _) ?_
    rintro e v1 ⟨rfl, b1⟩
    have B1 := Lib.hid b1
    have q1 : Below W.heap.size W v1 := hS0.trans (B1.out.mono hS0.size)
    clear b1
    refine ⟨_, rfl, hK _ _ (fun hn => q1) (fun hnx => ?_)⟩
    clear hK K hnx
    try simp only [Act.put, List.setIfInBounds_toArray, List.set_cons_zero, List.set_cons_succ]
    refine Ht.takeD 8 (i := 4) ⟨some 31, _, _, _, _, _⟩ (T A1) rfl (by kernel_rfl) (by kernel_rfl) (by decide) (by kernel_rfl) (by kernel_rfl) (by kernel_rfl) q1 (Or.inl ⟨by rfl, by (intro X hX; have := And.intro t1 z1; go_simp)⟩) ?_
    simp only [Act.put, List.setIfInBounds_toArray, List.set_cons_zero, List.set_cons_succ]
    refine Ht.step (i := 7) ⟨some 34, _, _, _, _, _⟩ rfl (by kernel_rfl) (by rfl) (fun K hK => ?_)
    refine Ht.enter 23 #[.int .u64 tk] (by have hen := fun args w => enters_of (P := Try.prog) Try.func23 (by kernel_rfl) rfl args w; go_simp) (C2.out _) ?_
    rintro e v2 ⟨rfl, b2⟩
    have B2 := Lib.hid b2
    have q2 : Below W.heap.size W v2 := q1.trans (B2.out.mono q1.size)
    clear b2
    refine ⟨_, rfl, hK _ _ (fun hn => q2) (fun hnx => ?_)⟩
    clear hK K hnx
    try simp only [Act.put, List.setIfInBounds_toArray, List.set_cons_zero, List.set_cons_succ]
    refine Ht.takeD 8 (i := 8) ⟨some 35, _, _, _, _, _⟩ (T A2) rfl (by kernel_rfl) (by kernel_rfl) (by decide) (by kernel_rfl) (by kernel_rfl) (by kernel_rfl) q2 (Or.inl ⟨by rfl, by (intro X hX; have := And.intro t2 z2; go_simp)⟩) ?_
    simp only [Act.put, List.setIfInBounds_toArray, List.set_cons_zero, List.set_cons_succ]
    refine Ht.step (i := 9) ⟨some 2, _, _, _, _, _⟩ rfl (by kernel_rfl) (by rfl) (fun K hK => ?_)
    go_simp
    refine hK _ _ (fun hn => absurd rfl hn) (fun hnx => ?_)
    clear hK K hnx
    try simp only [Act.put, List.setIfInBounds_toArray, List.set_cons_zero, List.set_cons_succ]
    refine done (by kernel_rfl) ?_
    have Q := Lib.hid (HB.out.1.trans (q2.mono HB.out.1.size))
    clear hS0 q1 q2 t1 t2 t3 z1 z2 z3 cl
    go_wp2_with fail
    go_ret
    exact ⟨by rw [HTT.out, ← HA.out.2.2.2.1, ← HA.out.2.2.2.2.1, ← List.append_assoc, ← HA.out.1, ← HA.out.2.1]; rfl, Q.out⟩
  · have HTT := Lib.hid (HT.out.2.2.2.2.1 (Or.inl rfl))
    clear HT
    obtain ⟨L1, hL1⟩ : ∃ L, L = textB nm := ⟨_, rfl⟩
    have g1 : L1.length ≤ 1010 := by
      rw [hL1]
      have := Sp.text_lenm (s := nm) (by omega)
      omega
    have HC := Lib.hid (show Calls Try.prog 43 #[.string nm] W fun e w' => e = .returned (T L1) ∧ Below W.heap.size W w' from by rw [hL1]; exact (ref_text nm W (by omega)))
    obtain ⟨A1, hA1, t1, y1, z1⟩ := join L0 L1 (by omega) (by omega)
    have HA := Lib.hid (And.intro hA1 hL1)
    clear hA1 hL1 y1 cl
    go_wp2_with fail
    refine HC.out.mono ?_
    rintro e W2 ⟨rfl, hb2⟩
    have B2 := Lib.hid (HB.out.1.trans (hb2.mono HB.out.1.size))
    clear hb2 HC
    go_wp2_with fail
    go_ret
    exact ⟨by rw [HTT.out, ← HA.out.2, ← HA.out.1]; rfl, B2.out⟩
  · have HTT := Lib.hid (HT.out.2.2.2.2.1 (Or.inr (Or.inl rfl)))
    clear HT
    obtain ⟨L1, hL1⟩ : ∃ L, L = textB nm := ⟨_, rfl⟩
    have g1 : L1.length ≤ 1010 := by
      rw [hL1]
      have := Sp.text_lenm (s := nm) (by omega)
      omega
    have HC := Lib.hid (show Calls Try.prog 43 #[.string nm] W fun e w' => e = .returned (T L1) ∧ Below W.heap.size W w' from by rw [hL1]; exact (ref_text nm W (by omega)))
    obtain ⟨A1, hA1, t1, y1, z1⟩ := join L0 L1 (by omega) (by omega)
    have HA := Lib.hid (And.intro hA1 hL1)
    clear hA1 hL1 y1 cl
    go_wp2_with fail
    refine HC.out.mono ?_
    rintro e W2 ⟨rfl, hb2⟩
    have B2 := Lib.hid (HB.out.1.trans (hb2.mono HB.out.1.size))
    clear hb2 HC
    go_wp2_with fail
    go_ret
    exact ⟨by rw [HTT.out, ← HA.out.2, ← HA.out.1]; rfl, B2.out⟩
  · have HTT := Lib.hid (HT.out.2.2.2.2.1 (Or.inr (Or.inr rfl)))
    clear HT
    obtain ⟨L1, hL1⟩ : ∃ L, L = textB nm := ⟨_, rfl⟩
    have g1 : L1.length ≤ 1010 := by
      rw [hL1]
      have := Sp.text_lenm (s := nm) (by omega)
      omega
    have HC := Lib.hid (show Calls Try.prog 43 #[.string nm] W fun e w' => e = .returned (T L1) ∧ Below W.heap.size W w' from by rw [hL1]; exact (ref_text nm W (by omega)))
    obtain ⟨A1, hA1, t1, y1, z1⟩ := join L0 L1 (by omega) (by omega)
    have HA := Lib.hid (And.intro hA1 hL1)
    clear hA1 hL1 y1 cl
    go_wp2_with fail
    refine HC.out.mono ?_
    rintro e W2 ⟨rfl, hb2⟩
    have B2 := Lib.hid (HB.out.1.trans (hb2.mono HB.out.1.size))
    clear hb2 HC
    go_wp2_with fail
    go_ret
    exact ⟨by rw [HTT.out, ← HA.out.2, ← HA.out.1]; rfl, B2.out⟩
  · have HTT := Lib.hid (HT.out.2.2.2.2.2.1 rfl)
    clear HT
    obtain ⟨L1, hL1⟩ : ∃ L, L = Sp.zz vl := ⟨_, rfl⟩
    have g1 : L1.length ≤ 1010 := by
      rw [hL1]
      have := Sp.zz_len w2
      omega
    have HC := Lib.hid (show Calls Try.prog 44 #[.int .i64 vl] W fun e w' => e = .returned (T L1) ∧ Below W.heap.size W w' from by rw [hL1]; exact (ref_int vl W w2))
    obtain ⟨A1, hA1, t1, y1, z1⟩ := join L0 L1 (by omega) (by omega)
    have HA := Lib.hid (And.intro hA1 hL1)
    clear hA1 hL1 y1 cl
    go_wp2_with fail
    refine HC.out.mono ?_
    rintro e W2 ⟨rfl, hb2⟩
    have B2 := Lib.hid (HB.out.1.trans (hb2.mono HB.out.1.size))
    clear hb2 HC
    go_wp2_with fail
    go_ret
    exact ⟨by rw [HTT.out, ← HA.out.2, ← HA.out.1]; rfl, B2.out⟩
end Go.Proofs.Ytfidmjpjfigmcaa.Cm
