
/- specs as bytes: Put -/
import Derived.Test.YtcodjknhnhdkfaaDoorCm6
import Derived.Test.YtcodjknhnhdkfaaDoorCmPS
namespace Go.Proofs.YtcodjknhnhdkfaaDoor.Cm
open Go.RowKit Go.Lib Wn Rf By
set_option linter.unusedVariables false
set_option maxRecDepth 20000
theorem old_fr {B pb k : Nat} {w w' : World} {cs : Array Value} {t : TypeId} (hf : Fr B pb w w') (h : w.heap[k]? = some (.cells cs t (0, 0))) (ht : t ≠ 5) (hk : k ≠ pb) : w'.heap[k]? = some (.cells cs t (0, 0)) := by
  rw [hf.more k (lt_of_block h) hk (fun cur q => by rw [h] at q; simp only [Option.some.injEq, Obj.cells.injEq] at q; exact ht q.2.1)]
  exact h
set_option maxHeartbeats 4000000 in
theorem spPut_any (B pb : Nat) (x : Sp.Spc) (M0 : List UInt8) (w : World) (hd : Sp.Dp w x.a x.n x.ds) (ha : 0 < x.n → ∀ b o, x.a = some ⟨b, o, none⟩ → b < B) (hwf : x.wf) (hm : x.med) (hpb : pb < B) (hB : B ≤ w.heap.size) (hw : Wr B w pb M0) (hlen : M0.length ≤ 1000000) :
    Calls Tryd.prog 34 #[.pointer (some ⟨pb, 0, none⟩), .agg x.cells] w (Put1 B pb (M0 ++ Sp.specB x) w) := by
  have hres : M0 ++ Sp.specB x = M0 ++ textB x.nm ++ textB x.tn ++ Sp.zz x.pr ++ Sp.zz x.dl ++ (uvarint x.n ++ x.ds.flatMap textB) ++ Sp.zz x.bs ++ Sp.zz x.cp ++ Sp.zz x.at' ++ Sp.zz x.ls ++ textB x.cr ++ Sp.zz x.ct := by
    unfold Sp.specB Sp.headB Sp.tailB Sp.rowB
    simp only [List.append_assoc]
  rw [hres]
  clear hres
  obtain ⟨nm, tn, pr, dl, a, n, c, ds, bs, cp, at', ls, cr, ct⟩ := x
  obtain ⟨w2, w3, w5, w6, w7, w8, w10⟩ := hwf
  obtain ⟨fd, f0, f1, fn, f9, fr⟩ := hm
  simp only at hd ha w2 w3 w5 w6 w7 w8 w10 fd f0 f1 fn f9 fr ⊢
  obtain ⟨V, hV⟩ : ∃ V, V = w.alloc (.cells #[.string nm, .string tn, .int .i64 pr, .int .i64 dl, .slice a n c, .int .i64 bs, .int .i64 cp, .int .i64 at', .int .i64 ls, .string cr, .int .i64 ct] 50) := ⟨_, rfl⟩
  have hb : Below w.heap.size w V := by rw [hV]; exact (Below.refl _ w).alloc (Nat.le_refl _) _
  have hs : V.heap.size = w.heap.size + 1 := by rw [hV]; simp
  have hx0 : V.heap[w.heap.size]? = some (.cells #[.string nm, .string tn, .int .i64 pr, .int .i64 dl, .slice a n c, .int .i64 bs, .int .i64 cp, .int .i64 at', .int .i64 ls, .string cr, .int .i64 ct] 50 (0, 0)) := by rw [hV]; exact heap_alloc_new w _
  have hpw : pb < w.heap.size := by omega
  have hw0 : Wr B V pb M0 := hw.below hb hpw (fun k hk => hk)
  have hF0 : Fr B pb w V := Fr.ofBelow hb hB
  have hu : U64 n := by unfold U64; omega
  have hul := uvarint_length64 hu
  have hul2 : (uvarint n).length ≤ 10 := hul
  have hrow : (ds.flatMap textB).length ≤ 20000 := fr
  have hdV : Da Value.string V a n ds := Sp.Dp.old hd hb
  have HD := Lib.hid (And.intro hdV (And.intro ha fd))
  clear hd hb ha fd hdV hw fr hul hu
  unfold Sp.Spc.cells
  simp only
  have q0 := Lib.hid (show ∀ d ∈ ds, d.size ≤ 1000000000 from fun d hd => by have := HD.out.2.2 d hd; omega)
  have p0 := Lib.hid hw0
  have r0 := Lib.hid hF0
  have S0 := Lib.hid (show B ≤ V.heap.size by omega)
  clear hw0 hF0
  go_enter Tryd.func34, Tryd.ntmps34
  have HC0 := Lib.hid (text_w B pb nm M0 V (by omega) hpb S0.out p0.out (by omega))
  obtain ⟨⟨l0, l1, l2, l3, l4, l5, l6, l7, l8, l9, l10⟩, _⟩ := Sp.eleven hx0
  go_wp2_with fail
  rw [← hV]
  have HV := Lib.hid hV
  clear hV
  refine HC0.out.mono ?_
  rintro e W1 ⟨rfl, hw1, hf1⟩
  obtain ⟨M1, hM1⟩ : ∃ M, M = M0 ++ textB nm := ⟨_, rfl⟩
  rw [← hM1] at hw1
  have g1 : M1.length ≤ 1001010 := by
    rw [hM1, List.length_append]
    have := Sp.text_lenm (s := nm) (by omega)
    omega
  have hx1 := old_fr hf1 hx0 (by decide) (by omega)
  have r1 := Lib.hid (r0.out.trans hf1)
  have r0V_0 := Lib.hid (hf1)
  have S1 := Lib.hid (show B ≤ W1.heap.size from Nat.le_trans S0.out hf1.size)
  have p1 := Lib.hid hw1
  have E1 := Lib.hid hM1
  clear hw1 hf1 hM1 hx0 HC0 l0 l1 l2 l3 l4 l5 l6 l7 l8 l9 l10
  have HC1 := Lib.hid (text_w B pb tn M1 W1 (by omega) hpb S1.out p1.out (by omega))
  obtain ⟨⟨l0, l1, l2, l3, l4, l5, l6, l7, l8, l9, l10⟩, _⟩ := Sp.eleven hx1
  go_wp2_with fail
  refine HC1.out.mono ?_
  rintro e W2 ⟨rfl, hw2, hf2⟩
  obtain ⟨M2, hM2⟩ : ∃ M, M = M1 ++ textB tn := ⟨_, rfl⟩
  rw [← hM2] at hw2
  have g2 : M2.length ≤ 1002020 := by
    rw [hM2, List.length_append]
    have := Sp.text_lenm (s := tn) (by omega)
    omega
  have hx2 := old_fr hf2 hx1 (by decide) (by omega)
  have r2 := Lib.hid (r1.out.trans hf2)
  have r0V_1 := Lib.hid (r0V_0.out.trans hf2)
  have S2 := Lib.hid (show B ≤ W2.heap.size from Nat.le_trans S1.out hf2.size)
  have p2 := Lib.hid hw2
  have E2 := Lib.hid hM2
  clear hw2 hf2 hM2 hx1 HC1 l0 l1 l2 l3 l4 l5 l6 l7 l8 l9 l10
  have HC2 := Lib.hid (int_w B pb pr M2 W2 w2 hpb S2.out p2.out (by omega))
  obtain ⟨⟨l0, l1, l2, l3, l4, l5, l6, l7, l8, l9, l10⟩, _⟩ := Sp.eleven hx2
  go_wp2_with fail
  refine HC2.out.mono ?_
  rintro e W3 ⟨rfl, hw3, hf3⟩
  obtain ⟨M3, hM3⟩ : ∃ M, M = M2 ++ Sp.zz pr := ⟨_, rfl⟩
  rw [← hM3] at hw3
  have g3 : M3.length ≤ 1002030 := by
    rw [hM3, List.length_append]
    have := Sp.zz_len w2
    omega
  have hx3 := old_fr hf3 hx2 (by decide) (by omega)
  have r3 := Lib.hid (r2.out.trans hf3)
  have r0V_2 := Lib.hid (r0V_1.out.trans hf3)
  have S3 := Lib.hid (show B ≤ W3.heap.size from Nat.le_trans S2.out hf3.size)
  have p3 := Lib.hid hw3
  have E3 := Lib.hid hM3
  clear hw3 hf3 hM3 hx2 HC2 l0 l1 l2 l3 l4 l5 l6 l7 l8 l9 l10
  have HC3 := Lib.hid (int_w B pb dl M3 W3 w3 hpb S3.out p3.out (by omega))
  obtain ⟨⟨l0, l1, l2, l3, l4, l5, l6, l7, l8, l9, l10⟩, _⟩ := Sp.eleven hx3
  go_wp2_with fail
  refine HC3.out.mono ?_
  rintro e W4 ⟨rfl, hw4, hf4⟩
  obtain ⟨M4, hM4⟩ : ∃ M, M = M3 ++ Sp.zz dl := ⟨_, rfl⟩
  rw [← hM4] at hw4
  have g4 : M4.length ≤ 1002040 := by
    rw [hM4, List.length_append]
    have := Sp.zz_len w3
    omega
  have hx4 := old_fr hf4 hx3 (by decide) (by omega)
  have r4 := Lib.hid (r3.out.trans hf4)
  have r0V := Lib.hid (r0V_2.out.trans hf4)
  have S4 := Lib.hid (show B ≤ W4.heap.size from Nat.le_trans S3.out hf4.size)
  have p4 := Lib.hid hw4
  have E4 := Lib.hid hM4
  clear hw4 hf4 hM4 hx3 HC3 l0 l1 l2 l3 l4 l5 l6 l7 l8 l9 l10
  have D4 : Da Value.string W4 a n ds := by
    refine ⟨HD.out.1.1, HD.out.1.2.1, ?_⟩
    rcases HD.out.1.2.2 with h0 | ⟨b, o, h1, h2⟩
    · exact .inl h0
    · by_cases h0 : n = 0
      · exact .inl h0
      · refine .inr ⟨b, o, h1, fun i hi => ?_⟩
        have hb' := HD.out.2.1 (by omega) b o h1
        have hne : b ≠ pb := by
          rintro rfl
          obtain ⟨v, hp, hown⟩ := p0.out
          obtain ⟨ao, cpp, rfl⟩ := own_shape hown
          have q := h2 0 (by rw [HD.out.1.1]; omega)
          simp only [World.cell?, hp] at q
          rcases Nat.eq_zero_or_pos o with z | z
          · subst z; simp at q
          · rw [show (#[Value.slice ao M0.length cpp])[o + 0]? = none by simp; omega] at q
            cases q
        rw [r0V.out.cell (p := ⟨b, o + i, none⟩) hb' hne]
        exact h2 i hi
  have HC4 := Lib.hid (put_s B pb a n c ds M4 W4 D4 HD.out.2.1 q0.out hpb S4.out p4.out (by omega) (by omega))
  obtain ⟨⟨l0, l1, l2, l3, l4, l5, l6, l7, l8, l9, l10⟩, _⟩ := Sp.eleven hx4
  go_wp2_with fail
  refine HC4.out.mono ?_
  rintro e W5 ⟨rfl, hw5, hf5⟩
  obtain ⟨M5, hM5⟩ : ∃ M, M = M4 ++ (uvarint n ++ ds.flatMap textB) := ⟨_, rfl⟩
  rw [← hM5] at hw5
  have g5 : M5.length ≤ 1022050 := by
    rw [hM5, List.length_append]
    have : (uvarint n ++ ds.flatMap textB).length ≤ 20010 := by rw [List.length_append]; omega
    omega
  have hx5 := old_fr hf5 hx4 (by decide) (by omega)
  have r5 := Lib.hid (r4.out.trans hf5)
  have S5 := Lib.hid (show B ≤ W5.heap.size from Nat.le_trans S4.out hf5.size)
  have p5 := Lib.hid hw5
  have E5 := Lib.hid hM5
  clear hw5 hf5 hM5 hx4 HC4 l0 l1 l2 l3 l4 l5 l6 l7 l8 l9 l10
  have HC5 := Lib.hid (int_w B pb bs M5 W5 w5 hpb S5.out p5.out (by omega))
  obtain ⟨⟨l0, l1, l2, l3, l4, l5, l6, l7, l8, l9, l10⟩, _⟩ := Sp.eleven hx5
  go_wp2_with fail
  refine HC5.out.mono ?_
  rintro e W6 ⟨rfl, hw6, hf6⟩
  obtain ⟨M6, hM6⟩ : ∃ M, M = M5 ++ Sp.zz bs := ⟨_, rfl⟩
  rw [← hM6] at hw6
  have g6 : M6.length ≤ 1022060 := by
    rw [hM6, List.length_append]
    have := Sp.zz_len w5
    omega
  have hx6 := old_fr hf6 hx5 (by decide) (by omega)
  have r6 := Lib.hid (r5.out.trans hf6)
  have S6 := Lib.hid (show B ≤ W6.heap.size from Nat.le_trans S5.out hf6.size)
  have p6 := Lib.hid hw6
  have E6 := Lib.hid hM6
  clear hw6 hf6 hM6 hx5 HC5 l0 l1 l2 l3 l4 l5 l6 l7 l8 l9 l10
  have HC6 := Lib.hid (int_w B pb cp M6 W6 w6 hpb S6.out p6.out (by omega))
  obtain ⟨⟨l0, l1, l2, l3, l4, l5, l6, l7, l8, l9, l10⟩, _⟩ := Sp.eleven hx6
  go_wp2_with fail
  refine HC6.out.mono ?_
  rintro e W7 ⟨rfl, hw7, hf7⟩
  obtain ⟨M7, hM7⟩ : ∃ M, M = M6 ++ Sp.zz cp := ⟨_, rfl⟩
  rw [← hM7] at hw7
  have g7 : M7.length ≤ 1022070 := by
    rw [hM7, List.length_append]
    have := Sp.zz_len w6
    omega
  have hx7 := old_fr hf7 hx6 (by decide) (by omega)
  have r7 := Lib.hid (r6.out.trans hf7)
  have S7 := Lib.hid (show B ≤ W7.heap.size from Nat.le_trans S6.out hf7.size)
  have p7 := Lib.hid hw7
  have E7 := Lib.hid hM7
  clear hw7 hf7 hM7 hx6 HC6 l0 l1 l2 l3 l4 l5 l6 l7 l8 l9 l10
  have HC7 := Lib.hid (int_w B pb at' M7 W7 w7 hpb S7.out p7.out (by omega))
  obtain ⟨⟨l0, l1, l2, l3, l4, l5, l6, l7, l8, l9, l10⟩, _⟩ := Sp.eleven hx7
  go_wp2_with fail
  refine HC7.out.mono ?_
  rintro e W8 ⟨rfl, hw8, hf8⟩
  obtain ⟨M8, hM8⟩ : ∃ M, M = M7 ++ Sp.zz at' := ⟨_, rfl⟩
  rw [← hM8] at hw8
  have g8 : M8.length ≤ 1022080 := by
    rw [hM8, List.length_append]
    have := Sp.zz_len w7
    omega
  have hx8 := old_fr hf8 hx7 (by decide) (by omega)
  have r8 := Lib.hid (r7.out.trans hf8)
  have S8 := Lib.hid (show B ≤ W8.heap.size from Nat.le_trans S7.out hf8.size)
  have p8 := Lib.hid hw8
  have E8 := Lib.hid hM8
  clear hw8 hf8 hM8 hx7 HC7 l0 l1 l2 l3 l4 l5 l6 l7 l8 l9 l10
  have HC8 := Lib.hid (int_w B pb ls M8 W8 w8 hpb S8.out p8.out (by omega))
  obtain ⟨⟨l0, l1, l2, l3, l4, l5, l6, l7, l8, l9, l10⟩, _⟩ := Sp.eleven hx8
  go_wp2_with fail
  refine HC8.out.mono ?_
  rintro e W9 ⟨rfl, hw9, hf9⟩
  obtain ⟨M9, hM9⟩ : ∃ M, M = M8 ++ Sp.zz ls := ⟨_, rfl⟩
  rw [← hM9] at hw9
  have g9 : M9.length ≤ 1022090 := by
    rw [hM9, List.length_append]
    have := Sp.zz_len w8
    omega
  have hx9 := old_fr hf9 hx8 (by decide) (by omega)
  have r9 := Lib.hid (r8.out.trans hf9)
  have S9 := Lib.hid (show B ≤ W9.heap.size from Nat.le_trans S8.out hf9.size)
  have p9 := Lib.hid hw9
  have E9 := Lib.hid hM9
  clear hw9 hf9 hM9 hx8 HC8 l0 l1 l2 l3 l4 l5 l6 l7 l8 l9 l10
  have HC9 := Lib.hid (text_w B pb cr M9 W9 (by omega) hpb S9.out p9.out (by omega))
  obtain ⟨⟨l0, l1, l2, l3, l4, l5, l6, l7, l8, l9, l10⟩, _⟩ := Sp.eleven hx9
  go_wp2_with fail
  refine HC9.out.mono ?_
  rintro e W10 ⟨rfl, hw10, hf10⟩
  obtain ⟨M10, hM10⟩ : ∃ M, M = M9 ++ textB cr := ⟨_, rfl⟩
  rw [← hM10] at hw10
  have g10 : M10.length ≤ 1023100 := by
    rw [hM10, List.length_append]
    have := Sp.text_lenm (s := cr) (by omega)
    omega
  have hx10 := old_fr hf10 hx9 (by decide) (by omega)
  have r10 := Lib.hid (r9.out.trans hf10)
  have S10 := Lib.hid (show B ≤ W10.heap.size from Nat.le_trans S9.out hf10.size)
  have p10 := Lib.hid hw10
  have E10 := Lib.hid hM10
  clear hw10 hf10 hM10 hx9 HC9 l0 l1 l2 l3 l4 l5 l6 l7 l8 l9 l10
  have HC10 := Lib.hid (int_w B pb ct M10 W10 w10 hpb S10.out p10.out (by omega))
  obtain ⟨⟨l0, l1, l2, l3, l4, l5, l6, l7, l8, l9, l10⟩, _⟩ := Sp.eleven hx10
  go_wp2_with fail
  refine HC10.out.mono ?_
  rintro e W11 ⟨rfl, hw11, hf11⟩
  obtain ⟨M11, hM11⟩ : ∃ M, M = M10 ++ Sp.zz ct := ⟨_, rfl⟩
  rw [← hM11] at hw11
  have g11 : M11.length ≤ 1023110 := by
    rw [hM11, List.length_append]
    have := Sp.zz_len w10
    omega
  have hx11 := old_fr hf11 hx10 (by decide) (by omega)
  have r11 := Lib.hid (r10.out.trans hf11)
  have S11 := Lib.hid (show B ≤ W11.heap.size from Nat.le_trans S10.out hf11.size)
  have p11 := Lib.hid hw11
  have E11 := Lib.hid hM11
  clear hw11 hf11 hM11 hx10 HC10 l0 l1 l2 l3 l4 l5 l6 l7 l8 l9 l10
  go_wp2_with fail
  go_end0
  refine ⟨rfl, ?_, r11.out⟩
  rw [← E1.out, ← E2.out, ← E3.out, ← E4.out, ← E5.out, ← E6.out, ← E7.out, ← E8.out, ← E9.out, ← E10.out, ← E11.out]
  exact p11.out
end Go.Proofs.YtcodjknhnhdkfaaDoor.Cm
