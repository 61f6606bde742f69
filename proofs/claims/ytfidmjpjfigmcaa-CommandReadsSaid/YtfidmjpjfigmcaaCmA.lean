
/- commands as bytes: put -/
import Derived.Test.YtfidmjpjfigmcaaCm7
import Derived.Test.YtfidmjpjfigmcaaCm8
namespace Go.Proofs.Ytfidmjpjfigmcaa.Cm
open Go.RowKit Go.Lib Wn Rf By
set_option linter.unusedVariables false
set_option maxRecDepth 20000
theorem cell_at {W : World} {b : Nat} {cs : Array Value} {t : TypeId} (h : W.heap[b]? = some (.cells cs t (0, 0))) {i : Nat} {v : Value} (hi : cs[i]? = some v) : W.cell? ⟨b, i, none⟩ = some v ∧ W.frozen? ⟨b, i, none⟩ = false := by
  simp [World.cell?, World.frozen?, h, hi]
theorem fl_spec {k : Int} (h : k = 1) : bS k = true ∧ bW k = false ∧ bN k = false ∧ bT k = false ∧ bV k = false := by
  subst h
  exact ⟨by decide, by decide, by decide, by decide, by decide⟩
theorem tl_spec {c : Cmd} (h : c.kd = 1) : tailC c = Sp.specB c.sp := by
  obtain ⟨h1, h2, h3, h4, h5⟩ := fl_spec h
  unfold tailC part
  rw [h1, h2, h3, h4, h5]
  simp
theorem fl_worker {k : Int} (h : k = 2) : bS k = false ∧ bW k = true ∧ bN k = false ∧ bT k = false ∧ bV k = false := by
  subst h
  exact ⟨by decide, by decide, by decide, by decide, by decide⟩
theorem tl_worker {c : Cmd} (h : c.kd = 2) : tailC c = textB c.wk := by
  obtain ⟨h1, h2, h3, h4, h5⟩ := fl_worker h
  unfold tailC part
  rw [h1, h2, h3, h4, h5]
  simp
theorem fl_two {k : Int} (h : k = 3 ∨ k = 5) : bS k = false ∧ bW k = false ∧ bN k = true ∧ bT k = true ∧ bV k = false := by
  rcases h with rfl | rfl <;> exact ⟨by decide, by decide, by decide, by decide, by decide⟩
theorem tl_two {c : Cmd} (h : c.kd = 3 ∨ c.kd = 5) : tailC c = textB c.nm ++ uvarint c.tk := by
  obtain ⟨h1, h2, h3, h4, h5⟩ := fl_two h
  unfold tailC part
  rw [h1, h2, h3, h4, h5]
  simp
theorem fl_three {k : Int} (h : k = 4) : bS k = false ∧ bW k = false ∧ bN k = true ∧ bT k = true ∧ bV k = true := by
  subst h
  exact ⟨by decide, by decide, by decide, by decide, by decide⟩
theorem tl_three {c : Cmd} (h : c.kd = 4) : tailC c = textB c.nm ++ (uvarint c.tk ++ Sp.zz c.vl) := by
  obtain ⟨h1, h2, h3, h4, h5⟩ := fl_three h
  unfold tailC part
  rw [h1, h2, h3, h4, h5]
  simp
theorem fl_name {k : Int} (h : k = 6 ∨ k = 7 ∨ k = 8) : bS k = false ∧ bW k = false ∧ bN k = true ∧ bT k = false ∧ bV k = false := by
  rcases h with rfl | rfl | rfl <;> exact ⟨by decide, by decide, by decide, by decide, by decide⟩
theorem tl_name {c : Cmd} (h : c.kd = 6 ∨ c.kd = 7 ∨ c.kd = 8) : tailC c = textB c.nm := by
  obtain ⟨h1, h2, h3, h4, h5⟩ := fl_name h
  unfold tailC part
  rw [h1, h2, h3, h4, h5]
  simp
theorem fl_value {k : Int} (h : k = 9) : bS k = false ∧ bW k = false ∧ bN k = false ∧ bT k = false ∧ bV k = true := by
  subst h
  exact ⟨by decide, by decide, by decide, by decide, by decide⟩
theorem tl_value {c : Cmd} (h : c.kd = 9) : tailC c = Sp.zz c.vl := by
  obtain ⟨h1, h2, h3, h4, h5⟩ := fl_value h
  unfold tailC part
  rw [h1, h2, h3, h4, h5]
  simp
theorem fl_none {k : Int} (h : k < 1 ∨ 9 < k) : bS k = false ∧ bW k = false ∧ bN k = false ∧ bT k = false ∧ bV k = false := by
  unfold bS bW bN bT bV
  rw [decide_eq_false (show ¬ k = 1 by omega), decide_eq_false (show ¬ k = 2 by omega), decide_eq_false (show ¬ k = 4 by omega), decide_eq_false (show ¬ k = 9 by omega)]
  rcases h with h | h
  · rw [decide_eq_false (show ¬ 3 ≤ k by omega)]; exact ⟨rfl, rfl, rfl, rfl, rfl⟩
  · rw [decide_eq_false (show ¬ k ≤ 8 by omega), decide_eq_false (show ¬ k ≤ 5 by omega), Bool.and_false]; exact ⟨rfl, rfl, rfl, rfl, rfl⟩
theorem tl_none {c : Cmd} (h : c.kd < 1 ∨ 9 < c.kd) : tailC c = [] := by
  obtain ⟨h1, h2, h3, h4, h5⟩ := fl_none h
  unfold tailC part
  rw [h1, h2, h3, h4, h5]
  simp
theorem dp_fr {B pb : Nat} {V Y : World} {a : Option Addr} {n : Nat} {ds : List ByteArray} {M : List UInt8} (hd : Da Value.string V a n ds) (ha : 0 < n → ∀ b o, a = some ⟨b, o, none⟩ → b < B) (hw : Wr B V pb M) (hf : Fr B pb V Y) : Da Value.string Y a n ds := by
  refine ⟨hd.1, hd.2.1, ?_⟩
  rcases hd.2.2 with h0 | ⟨b, o, h1, h2⟩
  · exact .inl h0
  · by_cases h0 : n = 0
    · exact .inl h0
    · refine .inr ⟨b, o, h1, fun i hi => ?_⟩
      have hb' := ha (by omega) b o h1
      have hne : b ≠ pb := by
        rintro rfl
        obtain ⟨v, hp, hown⟩ := hw
        obtain ⟨ao, cpp, rfl⟩ := own_shape hown
        have q := h2 0 (by rw [hd.1]; omega)
        simp only [World.cell?, hp] at q
        rcases Nat.eq_zero_or_pos o with z | z
        · subst z; simp at q
        · rw [show (#[Value.slice ao M.length cpp])[o + 0]? = none by simp; omega] at q
          cases q
      rw [hf.cell (p := ⟨b, o + i, none⟩) hb' hne]
      exact h2 i hi
/-- not too long -/
def Cmd.med (c : Cmd) : Prop := c.nm.size ≤ 1000 ∧ c.wk.size ≤ 1000 ∧ c.sp.med
set_option maxHeartbeats 8000000 in
theorem put_any (B pb : Nat) (c : Cmd) (M0 : List UInt8) (w : World) (hk : isK c.kd = true) (hd : Sp.Dp w c.sp.a c.sp.n c.sp.ds) (hwf : c.wf) (hm : c.med) (hpb : pb < B) (hB : B ≤ w.heap.size)
    (ha : 0 < c.sp.n → ∀ b o, c.sp.a = some ⟨b, o, none⟩ → b < B) (hw : Wr B w pb M0) (hlen : M0.length ≤ 1000) :
    Calls Try.prog 35 #[.pointer (some ⟨pb, 0, none⟩), .agg c.cells] w (Put1 B pb (M0 ++ cmdB c) w) := by
  have hk' := isK_iff.1 hk
  have hres : M0 ++ cmdB c = (M0 ++ uvarint c.kd.toNat) ++ tailC c := by unfold cmdB; rw [List.append_assoc]
  rw [hres]
  have tS := tl_spec (c := c)
  have tW := tl_worker (c := c)
  have t2 := tl_two (c := c)
  have t3 := tl_three (c := c)
  have tN := tl_name (c := c)
  have tV := tl_value (c := c)
  have t0 := tl_none (c := c)
  generalize htail : tailC c = tail at *
  clear htail hres
  obtain ⟨kd, nm, wk, tk, vl, ⟨snm, stn, spr, sdl, sa, sn, sc, sds, sbs, scp, sat, sls, scr, sct⟩⟩ := c
  obtain ⟨w0, w1, w2, w3⟩ := hwf
  obtain ⟨m1, m2, m3⟩ := hm
  simp only at hd ha w0 w1 w2 w3 m1 m2 m3 hk hk' tS tW t2 t3 tN tV t0 ⊢
  have HT := Lib.hid (And.intro tS (And.intro tW (And.intro t2 (And.intro t3 (And.intro tN (And.intro tV t0))))))
  clear tS tW t2 t3 tN tV t0
  obtain ⟨V, hV⟩ : ∃ V, V = w.alloc (.cells #[.int .i64 kd, .string nm, .string wk, .int .u64 tk, .int .i64 vl, .string snm, .string stn, .int .i64 spr, .int .i64 sdl, .slice sa sn sc, .int .i64 sbs, .int .i64 scp, .int .i64 sat, .int .i64 sls, .string scr, .int .i64 sct] 29) := ⟨_, rfl⟩
  have hb : Below w.heap.size w V := by rw [hV]; exact (Below.refl _ w).alloc (Nat.le_refl _) _
  have hs : V.heap.size = w.heap.size + 1 := by rw [hV]; simp
  have hx0 : V.heap[w.heap.size]? = some (.cells #[.int .i64 kd, .string nm, .string wk, .int .u64 tk, .int .i64 vl, .string snm, .string stn, .int .i64 spr, .int .i64 sdl, .slice sa sn sc, .int .i64 sbs, .int .i64 scp, .int .i64 sat, .int .i64 sls, .string scr, .int .i64 sct] 29 (0, 0)) := by rw [hV]; exact heap_alloc_new w _
  have hw0 : Wr B V pb M0 := hw.below hb (by omega) (fun k hk => hk)
  obtain ⟨n, hn⟩ : ∃ n : Nat, n = kd.toNat := ⟨_, rfl⟩
  have hkn : IntKind.u64.wrap kd = (n : Int) := by rw [IntKind.wrap_u64]; omega
  have hu : U64 n := by unfold U64; omega
  have hul : (uvarint n).length ≤ 10 := uvarint_length64 hu
  rw [← hn]
  have HN := Lib.hid (num_w B pb n M0 V hu hpb (by omega) hw0 (by omega))
  have HD := Lib.hid (And.intro (hd.old hb) (And.intro ha (And.intro w3 m3)))
  have F0 := Lib.hid (Fr.ofBelow (pb := pb) hb hB)
  have PV := Lib.hid hw0
  have l0 := (cell_at hx0 (i := 0) rfl).1
  have hu := Lib.hid hn
  clear hn hw hw0 hd ha w3 m3 hb
  unfold Cmd.cells
  simp only
  go_enter Try.func35, Try.ntmps35
  go_wp2_with fail
  rw [← hV]
  have HV := Lib.hid hV
  clear hV l0
  refine HN.out.mono ?_
  rintro e W1 ⟨rfl, hw1, hf1⟩
  have hx1 := old_fr hf1 hx0 (by decide) (by omega)
  have HF := Lib.hid (fields_any kd W1)
  obtain ⟨M1, hM1⟩ : ∃ M, M = M0 ++ uvarint n := ⟨_, rfl⟩
  rw [← hM1] at hw1
  have E0 := Lib.hid hM1
  have FV1 := Lib.hid hf1
  have hl1 : M1.length ≤ 1010 := by rw [hM1, List.length_append]; omega
  have F1 := Lib.hid (F0.out.trans hf1)
  have hc0 := (cell_at hx1 (i := 0) rfl).1
  have hs1 := hf1.size
  have P1 := Lib.hid hw1
  clear hM1 hf1 hw1 hx0 HN hul
  go_wp2_with fail
  refine HF.out.mono ?_
  rintro e W2 ⟨rfl, hb2⟩
  have hx2 := (hb2.block w.heap.size (by omega)).trans hx1
  have hw2 := P1.out.below hb2 (by omega) (fun k hk => hk)
  have hs2 := hb2.size
  have F2 := Lib.hid (F1.out.trans (Fr.ofBelow hb2 (by omega)))
  have FV2 := Lib.hid (FV1.out.trans (Fr.ofBelow (pb := pb) hb2 (by omega)))
  have hlt2 : w.heap.size < W2.heap.size := by omega
  have P2 := Lib.hid hw2
  clear hx1 hc0 hb2 hw2 HF
  unfold flds
  rcases cls kd with h | h | h | h | h | h | h
  · have HTT := Lib.hid (HT.out.1 h)
    obtain ⟨b0, b1, b2, b3, b4⟩ := fl_spec h
    rw [b0, b1, b2, b3, b4]
    clear b0 b1 b2 b3 b4
    obtain ⟨Y0, hY⟩ : ∃ Y, Y = W2.alloc (.cells #[.bool true, .bool false, .bool false, .bool false, .bool false] 60) := ⟨_, rfl⟩
    have hbY : Below W2.heap.size W2 Y0 := by rw [hY]; exact (Below.refl _ _).alloc (Nat.le_refl _) _
    have hy0 : Y0.heap[W2.heap.size]? = some (.cells #[.bool true, .bool false, .bool false, .bool false, .bool false] 60 (0, 0)) := by rw [hY]; exact heap_alloc_new W2 _
    have hz0 := (hbY.block w.heap.size (by omega)).trans hx2
    have hpw := P2.out.below hbY (by omega) (fun k hk => hk)
    have hsY := hbY.size
    have G0 := Lib.hid (F2.out.trans (Fr.ofBelow hbY (by omega)))
    have Q0 := Lib.hid hpw
    have N0 := Lib.hid (show B ≤ Y0.heap.size by omega)
    have GV := Lib.hid (FV2.out.trans (Fr.ofBelow (pb := pb) hbY (by omega)))
    clear hbY hpw hsY
    have l0 := (cell_at hx2 (i := 0) rfl).1
    have l1 := (cell_at hx2 (i := 1) rfl).1
    have l2 := (cell_at hx2 (i := 2) rfl).1
    have l3 := (cell_at hx2 (i := 3) rfl).1
    have l4 := (cell_at hx2 (i := 4) rfl).1
    have l5 := (cell_at hx2 (i := 5) rfl).1
    have l6 := (cell_at hx2 (i := 6) rfl).1
    have l7 := (cell_at hx2 (i := 7) rfl).1
    have l8 := (cell_at hx2 (i := 8) rfl).1
    have l9 := (cell_at hx2 (i := 9) rfl).1
    have l10 := (cell_at hx2 (i := 10) rfl).1
    have l11 := (cell_at hx2 (i := 11) rfl).1
    have l12 := (cell_at hx2 (i := 12) rfl).1
    have l13 := (cell_at hx2 (i := 13) rfl).1
    have l14 := (cell_at hx2 (i := 14) rfl).1
    have l15 := (cell_at hx2 (i := 15) rfl).1
    have D0 : Sp.Dp Y0 sa sn sds := dp_fr HD.out.1 HD.out.2.1 PV.out GV.out
    have HC0 := Lib.hid (spPut_any B pb ⟨snm, stn, spr, sdl, sa, sn, sc, sds, sbs, scp, sat, sls, scr, sct⟩ M1 Y0 D0 HD.out.2.1 HD.out.2.2.1 HD.out.2.2.2 hpb N0.out Q0.out (by omega))
    go_wp2_with fail
    rw [← hY]
    clear hY l0 l1 l2 l3 l4 l5 l6 l7 l8 l9 l10 l11 l12 l13 l14 l15
    refine HC0.out.mono ?_
    rintro e Y1 ⟨rfl, hw, hf⟩
    obtain ⟨K1, hK⟩ : ∃ M, M = M1 ++ Sp.specB ⟨snm, stn, spr, sdl, sa, sn, sc, sds, sbs, scp, sat, sls, scr, sct⟩ := ⟨_, rfl⟩
    rw [← hK] at hw
    have hy1 := old_fr hf hy0 (by decide) (by omega)
    have hz1 := old_fr hf hz0 (by decide) (by omega)
    have G1 := Lib.hid (G0.out.trans hf)
    have N1 := Lib.hid (Nat.le_trans N0.out hf.size)
    have Q1 := Lib.hid hw
    have E1 := Lib.hid hK
    clear hw hf hK HC0
    have l0 := (cell_at hz1 (i := 0) rfl).1
    have l1 := (cell_at hz1 (i := 1) rfl).1
    have l2 := (cell_at hz1 (i := 2) rfl).1
    have l3 := (cell_at hz1 (i := 3) rfl).1
    have l4 := (cell_at hz1 (i := 4) rfl).1
    have l5 := (cell_at hz1 (i := 5) rfl).1
    have l6 := (cell_at hz1 (i := 6) rfl).1
    have l7 := (cell_at hz1 (i := 7) rfl).1
    have l8 := (cell_at hz1 (i := 8) rfl).1
    have l9 := (cell_at hz1 (i := 9) rfl).1
    have l10 := (cell_at hz1 (i := 10) rfl).1
    have l11 := (cell_at hz1 (i := 11) rfl).1
    have l12 := (cell_at hz1 (i := 12) rfl).1
    have l13 := (cell_at hz1 (i := 13) rfl).1
    have l14 := (cell_at hz1 (i := 14) rfl).1
    have l15 := (cell_at hz1 (i := 15) rfl).1
    have f0 := (cell_at hy1 (i := 0) rfl).1
    have f1 := (cell_at hy1 (i := 1) rfl).1
    have f2 := (cell_at hy1 (i := 2) rfl).1
    have f3 := (cell_at hy1 (i := 3) rfl).1
    have f4 := (cell_at hy1 (i := 4) rfl).1
    go_wp2_with fail
    go_end0
    refine ⟨rfl, ?_, G1.out⟩
    rw [HTT.out, ← E0.out]
    rw [← E1.out]
    exact Q1.out
  · have HTT := Lib.hid (HT.out.2.1 h)
    obtain ⟨b0, b1, b2, b3, b4⟩ := fl_worker h
    rw [b0, b1, b2, b3, b4]
    clear b0 b1 b2 b3 b4
    obtain ⟨Y0, hY⟩ : ∃ Y, Y = W2.alloc (.cells #[.bool false, .bool true, .bool false, .bool false, .bool false] 60) := ⟨_, rfl⟩
    have hbY : Below W2.heap.size W2 Y0 := by rw [hY]; exact (Below.refl _ _).alloc (Nat.le_refl _) _
    have hy0 : Y0.heap[W2.heap.size]? = some (.cells #[.bool false, .bool true, .bool false, .bool false, .bool false] 60 (0, 0)) := by rw [hY]; exact heap_alloc_new W2 _
    have hz0 := (hbY.block w.heap.size (by omega)).trans hx2
    have hpw := P2.out.below hbY (by omega) (fun k hk => hk)
    have hsY := hbY.size
    have G0 := Lib.hid (F2.out.trans (Fr.ofBelow hbY (by omega)))
    have Q0 := Lib.hid hpw
    have N0 := Lib.hid (show B ≤ Y0.heap.size by omega)
    have GV := Lib.hid (FV2.out.trans (Fr.ofBelow (pb := pb) hbY (by omega)))
    clear hbY hpw hsY
    have l0 := (cell_at hx2 (i := 0) rfl).1
    have l1 := (cell_at hx2 (i := 1) rfl).1
    have l2 := (cell_at hx2 (i := 2) rfl).1
    have l3 := (cell_at hx2 (i := 3) rfl).1
    have l4 := (cell_at hx2 (i := 4) rfl).1
    have l5 := (cell_at hx2 (i := 5) rfl).1
    have l6 := (cell_at hx2 (i := 6) rfl).1
    have l7 := (cell_at hx2 (i := 7) rfl).1
    have l8 := (cell_at hx2 (i := 8) rfl).1
    have l9 := (cell_at hx2 (i := 9) rfl).1
    have l10 := (cell_at hx2 (i := 10) rfl).1
    have l11 := (cell_at hx2 (i := 11) rfl).1
    have l12 := (cell_at hx2 (i := 12) rfl).1
    have l13 := (cell_at hx2 (i := 13) rfl).1
    have l14 := (cell_at hx2 (i := 14) rfl).1
    have l15 := (cell_at hx2 (i := 15) rfl).1
    have HC0 := Lib.hid (text_w B pb wk M1 Y0 (by omega) hpb N0.out Q0.out (by omega))
    go_wp2_with fail
    rw [← hY]
    clear hY l0 l1 l2 l3 l4 l5 l6 l7 l8 l9 l10 l11 l12 l13 l14 l15
    refine HC0.out.mono ?_
    rintro e Y1 ⟨rfl, hw, hf⟩
    obtain ⟨K1, hK⟩ : ∃ M, M = M1 ++ textB wk := ⟨_, rfl⟩
    rw [← hK] at hw
    have hkl1 : K1.length ≤ 2020 := by
      rw [hK, List.length_append]
      have := Sp.text_lenm (s := wk) (by omega)
      omega
    have hy1 := old_fr hf hy0 (by decide) (by omega)
    have hz1 := old_fr hf hz0 (by decide) (by omega)
    have G1 := Lib.hid (G0.out.trans hf)
    have N1 := Lib.hid (Nat.le_trans N0.out hf.size)
    have Q1 := Lib.hid hw
    have E1 := Lib.hid hK
    clear hw hf hK HC0
    have l0 := (cell_at hz1 (i := 0) rfl).1
    have l1 := (cell_at hz1 (i := 1) rfl).1
    have l2 := (cell_at hz1 (i := 2) rfl).1
    have l3 := (cell_at hz1 (i := 3) rfl).1
    have l4 := (cell_at hz1 (i := 4) rfl).1
    have l5 := (cell_at hz1 (i := 5) rfl).1
    have l6 := (cell_at hz1 (i := 6) rfl).1
    have l7 := (cell_at hz1 (i := 7) rfl).1
    have l8 := (cell_at hz1 (i := 8) rfl).1
    have l9 := (cell_at hz1 (i := 9) rfl).1
    have l10 := (cell_at hz1 (i := 10) rfl).1
    have l11 := (cell_at hz1 (i := 11) rfl).1
    have l12 := (cell_at hz1 (i := 12) rfl).1
    have l13 := (cell_at hz1 (i := 13) rfl).1
    have l14 := (cell_at hz1 (i := 14) rfl).1
    have l15 := (cell_at hz1 (i := 15) rfl).1
    have f0 := (cell_at hy1 (i := 0) rfl).1
    have f1 := (cell_at hy1 (i := 1) rfl).1
    have f2 := (cell_at hy1 (i := 2) rfl).1
    have f3 := (cell_at hy1 (i := 3) rfl).1
    have f4 := (cell_at hy1 (i := 4) rfl).1
    go_wp2_with fail
    go_end0
    refine ⟨rfl, ?_, G1.out⟩
    rw [HTT.out, ← E0.out]
    rw [← E1.out]
    exact Q1.out
  · have HTT := Lib.hid (HT.out.2.2.1 h)
    obtain ⟨b0, b1, b2, b3, b4⟩ := fl_two h
    rw [b0, b1, b2, b3, b4]
    clear b0 b1 b2 b3 b4
    obtain ⟨Y0, hY⟩ : ∃ Y, Y = W2.alloc (.cells #[.bool false, .bool false, .bool true, .bool true, .bool false] 60) := ⟨_, rfl⟩
    have hbY : Below W2.heap.size W2 Y0 := by rw [hY]; exact (Below.refl _ _).alloc (Nat.le_refl _) _
    have hy0 : Y0.heap[W2.heap.size]? = some (.cells #[.bool false, .bool false, .bool true, .bool true, .bool false] 60 (0, 0)) := by rw [hY]; exact heap_alloc_new W2 _
    have hz0 := (hbY.block w.heap.size (by omega)).trans hx2
    have hpw := P2.out.below hbY (by omega) (fun k hk => hk)
    have hsY := hbY.size
    have G0 := Lib.hid (F2.out.trans (Fr.ofBelow hbY (by omega)))
    have Q0 := Lib.hid hpw
    have N0 := Lib.hid (show B ≤ Y0.heap.size by omega)
    have GV := Lib.hid (FV2.out.trans (Fr.ofBelow (pb := pb) hbY (by omega)))
    clear hbY hpw hsY
    have l0 := (cell_at hx2 (i := 0) rfl).1
    have l1 := (cell_at hx2 (i := 1) rfl).1
    have l2 := (cell_at hx2 (i := 2) rfl).1
    have l3 := (cell_at hx2 (i := 3) rfl).1
    have l4 := (cell_at hx2 (i := 4) rfl).1
    have l5 := (cell_at hx2 (i := 5) rfl).1
    have l6 := (cell_at hx2 (i := 6) rfl).1
    have l7 := (cell_at hx2 (i := 7) rfl).1
    have l8 := (cell_at hx2 (i := 8) rfl).1
    have l9 := (cell_at hx2 (i := 9) rfl).1
    have l10 := (cell_at hx2 (i := 10) rfl).1
    have l11 := (cell_at hx2 (i := 11) rfl).1
    have l12 := (cell_at hx2 (i := 12) rfl).1
    have l13 := (cell_at hx2 (i := 13) rfl).1
    have l14 := (cell_at hx2 (i := 14) rfl).1
    have l15 := (cell_at hx2 (i := 15) rfl).1
    have HC0 := Lib.hid (text_w B pb nm M1 Y0 (by omega) hpb N0.out Q0.out (by omega))
    go_wp2_with fail
    rw [← hY]
    clear hY l0 l1 l2 l3 l4 l5 l6 l7 l8 l9 l10 l11 l12 l13 l14 l15
    refine HC0.out.mono ?_
    rintro e Y1 ⟨rfl, hw, hf⟩
    obtain ⟨K1, hK⟩ : ∃ M, M = M1 ++ textB nm := ⟨_, rfl⟩
    rw [← hK] at hw
    have hkl1 : K1.length ≤ 2020 := by
      rw [hK, List.length_append]
      have := Sp.text_lenm (s := nm) (by omega)
      omega
    have hy1 := old_fr hf hy0 (by decide) (by omega)
    have hz1 := old_fr hf hz0 (by decide) (by omega)
    have G1 := Lib.hid (G0.out.trans hf)
    have N1 := Lib.hid (Nat.le_trans N0.out hf.size)
    have Q1 := Lib.hid hw
    have E1 := Lib.hid hK
    clear hw hf hK HC0
    have l0 := (cell_at hz1 (i := 0) rfl).1
    have l1 := (cell_at hz1 (i := 1) rfl).1
    have l2 := (cell_at hz1 (i := 2) rfl).1
    have l3 := (cell_at hz1 (i := 3) rfl).1
    have l4 := (cell_at hz1 (i := 4) rfl).1
    have l5 := (cell_at hz1 (i := 5) rfl).1
    have l6 := (cell_at hz1 (i := 6) rfl).1
    have l7 := (cell_at hz1 (i := 7) rfl).1
    have l8 := (cell_at hz1 (i := 8) rfl).1
    have l9 := (cell_at hz1 (i := 9) rfl).1
    have l10 := (cell_at hz1 (i := 10) rfl).1
    have l11 := (cell_at hz1 (i := 11) rfl).1
    have l12 := (cell_at hz1 (i := 12) rfl).1
    have l13 := (cell_at hz1 (i := 13) rfl).1
    have l14 := (cell_at hz1 (i := 14) rfl).1
    have l15 := (cell_at hz1 (i := 15) rfl).1
    have f0 := (cell_at hy1 (i := 0) rfl).1
    have f1 := (cell_at hy1 (i := 1) rfl).1
    have f2 := (cell_at hy1 (i := 2) rfl).1
    have f3 := (cell_at hy1 (i := 3) rfl).1
    have f4 := (cell_at hy1 (i := 4) rfl).1
    have HC1 := Lib.hid (num_w B pb tk K1 Y1 w1 hpb N1.out Q1.out (by omega))
    go_wp2_with fail
    clear l0 l1 l2 l3 l4 l5 l6 l7 l8 l9 l10 l11 l12 l13 l14 l15 f0 f1 f2 f3 f4
    refine HC1.out.mono ?_
    rintro e Y2 ⟨rfl, hw, hf⟩
    obtain ⟨K2, hK⟩ : ∃ M, M = K1 ++ uvarint tk := ⟨_, rfl⟩
    rw [← hK] at hw
    have hkl2 : K2.length ≤ 3030 := by
      rw [hK, List.length_append]
      have := uvarint_length64 w1
      omega
    have hy2 := old_fr hf hy1 (by decide) (by omega)
    have hz2 := old_fr hf hz1 (by decide) (by omega)
    have G2 := Lib.hid (G1.out.trans hf)
    have N2 := Lib.hid (Nat.le_trans N1.out hf.size)
    have Q2 := Lib.hid hw
    have E2 := Lib.hid hK
    clear hw hf hK HC1
    have l0 := (cell_at hz2 (i := 0) rfl).1
    have l1 := (cell_at hz2 (i := 1) rfl).1
    have l2 := (cell_at hz2 (i := 2) rfl).1
    have l3 := (cell_at hz2 (i := 3) rfl).1
    have l4 := (cell_at hz2 (i := 4) rfl).1
    have l5 := (cell_at hz2 (i := 5) rfl).1
    have l6 := (cell_at hz2 (i := 6) rfl).1
    have l7 := (cell_at hz2 (i := 7) rfl).1
    have l8 := (cell_at hz2 (i := 8) rfl).1
    have l9 := (cell_at hz2 (i := 9) rfl).1
    have l10 := (cell_at hz2 (i := 10) rfl).1
    have l11 := (cell_at hz2 (i := 11) rfl).1
    have l12 := (cell_at hz2 (i := 12) rfl).1
    have l13 := (cell_at hz2 (i := 13) rfl).1
    have l14 := (cell_at hz2 (i := 14) rfl).1
    have l15 := (cell_at hz2 (i := 15) rfl).1
    have f0 := (cell_at hy2 (i := 0) rfl).1
    have f1 := (cell_at hy2 (i := 1) rfl).1
    have f2 := (cell_at hy2 (i := 2) rfl).1
    have f3 := (cell_at hy2 (i := 3) rfl).1
    have f4 := (cell_at hy2 (i := 4) rfl).1
    go_wp2_with fail
    go_end0
    refine ⟨rfl, ?_, G2.out⟩
    rw [HTT.out, ← E0.out]
    simp only [← List.append_assoc]
    rw [← E1.out, ← E2.out]
    exact Q2.out
  · have HTT := Lib.hid (HT.out.2.2.2.1 h)
    obtain ⟨b0, b1, b2, b3, b4⟩ := fl_three h
    rw [b0, b1, b2, b3, b4]
    clear b0 b1 b2 b3 b4
    obtain ⟨Y0, hY⟩ : ∃ Y, Y = W2.alloc (.cells #[.bool false, .bool false, .bool true, .bool true, .bool true] 60) := ⟨_, rfl⟩
    have hbY : Below W2.heap.size W2 Y0 := by rw [hY]; exact (Below.refl _ _).alloc (Nat.le_refl _) _
    have hy0 : Y0.heap[W2.heap.size]? = some (.cells #[.bool false, .bool false, .bool true, .bool true, .bool true] 60 (0, 0)) := by rw [hY]; exact heap_alloc_new W2 _
    have hz0 := (hbY.block w.heap.size (by omega)).trans hx2
    have hpw := P2.out.below hbY (by omega) (fun k hk => hk)
    have hsY := hbY.size
    have G0 := Lib.hid (F2.out.trans (Fr.ofBelow hbY (by omega)))
    have Q0 := Lib.hid hpw
    have N0 := Lib.hid (show B ≤ Y0.heap.size by omega)
    have GV := Lib.hid (FV2.out.trans (Fr.ofBelow (pb := pb) hbY (by omega)))
    clear hbY hpw hsY
    have l0 := (cell_at hx2 (i := 0) rfl).1
    have l1 := (cell_at hx2 (i := 1) rfl).1
    have l2 := (cell_at hx2 (i := 2) rfl).1
    have l3 := (cell_at hx2 (i := 3) rfl).1
    have l4 := (cell_at hx2 (i := 4) rfl).1
    have l5 := (cell_at hx2 (i := 5) rfl).1
    have l6 := (cell_at hx2 (i := 6) rfl).1
    have l7 := (cell_at hx2 (i := 7) rfl).1
    have l8 := (cell_at hx2 (i := 8) rfl).1
    have l9 := (cell_at hx2 (i := 9) rfl).1
    have l10 := (cell_at hx2 (i := 10) rfl).1
    have l11 := (cell_at hx2 (i := 11) rfl).1
    have l12 := (cell_at hx2 (i := 12) rfl).1
    have l13 := (cell_at hx2 (i := 13) rfl).1
    have l14 := (cell_at hx2 (i := 14) rfl).1
    have l15 := (cell_at hx2 (i := 15) rfl).1
    have HC0 := Lib.hid (text_w B pb nm M1 Y0 (by omega) hpb N0.out Q0.out (by omega))
    go_wp2_with fail
    rw [← hY]
    clear hY l0 l1 l2 l3 l4 l5 l6 l7 l8 l9 l10 l11 l12 l13 l14 l15
    refine HC0.out.mono ?_
    rintro e Y1 ⟨rfl, hw, hf⟩
    obtain ⟨K1, hK⟩ : ∃ M, M = M1 ++ textB nm := ⟨_, rfl⟩
    rw [← hK] at hw
    have hkl1 : K1.length ≤ 2020 := by
      rw [hK, List.length_append]
      have := Sp.text_lenm (s := nm) (by omega)
      omega
    have hy1 := old_fr hf hy0 (by decide) (by omega)
    have hz1 := old_fr hf hz0 (by decide) (by omega)
    have G1 := Lib.hid (G0.out.trans hf)
    have N1 := Lib.hid (Nat.le_trans N0.out hf.size)
    have Q1 := Lib.hid hw
    have E1 := Lib.hid hK
    clear hw hf hK HC0
    have l0 := (cell_at hz1 (i := 0) rfl).1
    have l1 := (cell_at hz1 (i := 1) rfl).1
    have l2 := (cell_at hz1 (i := 2) rfl).1
    have l3 := (cell_at hz1 (i := 3) rfl).1
    have l4 := (cell_at hz1 (i := 4) rfl).1
    have l5 := (cell_at hz1 (i := 5) rfl).1
    have l6 := (cell_at hz1 (i := 6) rfl).1
    have l7 := (cell_at hz1 (i := 7) rfl).1
    have l8 := (cell_at hz1 (i := 8) rfl).1
    have l9 := (cell_at hz1 (i := 9) rfl).1
    have l10 := (cell_at hz1 (i := 10) rfl).1
    have l11 := (cell_at hz1 (i := 11) rfl).1
    have l12 := (cell_at hz1 (i := 12) rfl).1
    have l13 := (cell_at hz1 (i := 13) rfl).1
    have l14 := (cell_at hz1 (i := 14) rfl).1
    have l15 := (cell_at hz1 (i := 15) rfl).1
    have f0 := (cell_at hy1 (i := 0) rfl).1
    have f1 := (cell_at hy1 (i := 1) rfl).1
    have f2 := (cell_at hy1 (i := 2) rfl).1
    have f3 := (cell_at hy1 (i := 3) rfl).1
    have f4 := (cell_at hy1 (i := 4) rfl).1
    have HC1 := Lib.hid (num_w B pb tk K1 Y1 w1 hpb N1.out Q1.out (by omega))
    go_wp2_with fail
    clear l0 l1 l2 l3 l4 l5 l6 l7 l8 l9 l10 l11 l12 l13 l14 l15 f0 f1 f2 f3 f4
    refine HC1.out.mono ?_
    rintro e Y2 ⟨rfl, hw, hf⟩
    obtain ⟨K2, hK⟩ : ∃ M, M = K1 ++ uvarint tk := ⟨_, rfl⟩
    rw [← hK] at hw
    have hkl2 : K2.length ≤ 3030 := by
      rw [hK, List.length_append]
      have := uvarint_length64 w1
      omega
    have hy2 := old_fr hf hy1 (by decide) (by omega)
    have hz2 := old_fr hf hz1 (by decide) (by omega)
    have G2 := Lib.hid (G1.out.trans hf)
    have N2 := Lib.hid (Nat.le_trans N1.out hf.size)
    have Q2 := Lib.hid hw
    have E2 := Lib.hid hK
    clear hw hf hK HC1
    have l0 := (cell_at hz2 (i := 0) rfl).1
    have l1 := (cell_at hz2 (i := 1) rfl).1
    have l2 := (cell_at hz2 (i := 2) rfl).1
    have l3 := (cell_at hz2 (i := 3) rfl).1
    have l4 := (cell_at hz2 (i := 4) rfl).1
    have l5 := (cell_at hz2 (i := 5) rfl).1
    have l6 := (cell_at hz2 (i := 6) rfl).1
    have l7 := (cell_at hz2 (i := 7) rfl).1
    have l8 := (cell_at hz2 (i := 8) rfl).1
    have l9 := (cell_at hz2 (i := 9) rfl).1
    have l10 := (cell_at hz2 (i := 10) rfl).1
    have l11 := (cell_at hz2 (i := 11) rfl).1
    have l12 := (cell_at hz2 (i := 12) rfl).1
    have l13 := (cell_at hz2 (i := 13) rfl).1
    have l14 := (cell_at hz2 (i := 14) rfl).1
    have l15 := (cell_at hz2 (i := 15) rfl).1
    have f0 := (cell_at hy2 (i := 0) rfl).1
    have f1 := (cell_at hy2 (i := 1) rfl).1
    have f2 := (cell_at hy2 (i := 2) rfl).1
    have f3 := (cell_at hy2 (i := 3) rfl).1
    have f4 := (cell_at hy2 (i := 4) rfl).1
    have HC2 := Lib.hid (int_w B pb vl K2 Y2 w2 hpb N2.out Q2.out (by omega))
    go_wp2_with fail
    clear l0 l1 l2 l3 l4 l5 l6 l7 l8 l9 l10 l11 l12 l13 l14 l15 f0 f1 f2 f3 f4
    refine HC2.out.mono ?_
    rintro e Y3 ⟨rfl, hw, hf⟩
    obtain ⟨K3, hK⟩ : ∃ M, M = K2 ++ Sp.zz vl := ⟨_, rfl⟩
    rw [← hK] at hw
    have hkl3 : K3.length ≤ 4040 := by
      rw [hK, List.length_append]
      have := Sp.zz_len w2
      omega
    have hy3 := old_fr hf hy2 (by decide) (by omega)
    have hz3 := old_fr hf hz2 (by decide) (by omega)
    have G3 := Lib.hid (G2.out.trans hf)
    have N3 := Lib.hid (Nat.le_trans N2.out hf.size)
    have Q3 := Lib.hid hw
    have E3 := Lib.hid hK
    clear hw hf hK HC2
    have l0 := (cell_at hz3 (i := 0) rfl).1
    have l1 := (cell_at hz3 (i := 1) rfl).1
    have l2 := (cell_at hz3 (i := 2) rfl).1
    have l3 := (cell_at hz3 (i := 3) rfl).1
    have l4 := (cell_at hz3 (i := 4) rfl).1
    have l5 := (cell_at hz3 (i := 5) rfl).1
    have l6 := (cell_at hz3 (i := 6) rfl).1
    have l7 := (cell_at hz3 (i := 7) rfl).1
    have l8 := (cell_at hz3 (i := 8) rfl).1
    have l9 := (cell_at hz3 (i := 9) rfl).1
    have l10 := (cell_at hz3 (i := 10) rfl).1
    have l11 := (cell_at hz3 (i := 11) rfl).1
    have l12 := (cell_at hz3 (i := 12) rfl).1
    have l13 := (cell_at hz3 (i := 13) rfl).1
    have l14 := (cell_at hz3 (i := 14) rfl).1
    have l15 := (cell_at hz3 (i := 15) rfl).1
    have f0 := (cell_at hy3 (i := 0) rfl).1
    have f1 := (cell_at hy3 (i := 1) rfl).1
    have f2 := (cell_at hy3 (i := 2) rfl).1
    have f3 := (cell_at hy3 (i := 3) rfl).1
    have f4 := (cell_at hy3 (i := 4) rfl).1
    go_wp2_with fail
    go_end0
    refine ⟨rfl, ?_, G3.out⟩
    rw [HTT.out, ← E0.out]
    simp only [← List.append_assoc]
    rw [← E1.out, ← E2.out, ← E3.out]
    exact Q3.out
  · have HTT := Lib.hid (HT.out.2.2.2.2.1 h)
    obtain ⟨b0, b1, b2, b3, b4⟩ := fl_name h
    rw [b0, b1, b2, b3, b4]
    clear b0 b1 b2 b3 b4
    obtain ⟨Y0, hY⟩ : ∃ Y, Y = W2.alloc (.cells #[.bool false, .bool false, .bool true, .bool false, .bool false] 60) := ⟨_, rfl⟩
    have hbY : Below W2.heap.size W2 Y0 := by rw [hY]; exact (Below.refl _ _).alloc (Nat.le_refl _) _
    have hy0 : Y0.heap[W2.heap.size]? = some (.cells #[.bool false, .bool false, .bool true, .bool false, .bool false] 60 (0, 0)) := by rw [hY]; exact heap_alloc_new W2 _
    have hz0 := (hbY.block w.heap.size (by omega)).trans hx2
    have hpw := P2.out.below hbY (by omega) (fun k hk => hk)
    have hsY := hbY.size
    have G0 := Lib.hid (F2.out.trans (Fr.ofBelow hbY (by omega)))
    have Q0 := Lib.hid hpw
    have N0 := Lib.hid (show B ≤ Y0.heap.size by omega)
    have GV := Lib.hid (FV2.out.trans (Fr.ofBelow (pb := pb) hbY (by omega)))
    clear hbY hpw hsY
    have l0 := (cell_at hx2 (i := 0) rfl).1
    have l1 := (cell_at hx2 (i := 1) rfl).1
    have l2 := (cell_at hx2 (i := 2) rfl).1
    have l3 := (cell_at hx2 (i := 3) rfl).1
    have l4 := (cell_at hx2 (i := 4) rfl).1
    have l5 := (cell_at hx2 (i := 5) rfl).1
    have l6 := (cell_at hx2 (i := 6) rfl).1
    have l7 := (cell_at hx2 (i := 7) rfl).1
    have l8 := (cell_at hx2 (i := 8) rfl).1
    have l9 := (cell_at hx2 (i := 9) rfl).1
    have l10 := (cell_at hx2 (i := 10) rfl).1
    have l11 := (cell_at hx2 (i := 11) rfl).1
    have l12 := (cell_at hx2 (i := 12) rfl).1
    have l13 := (cell_at hx2 (i := 13) rfl).1
    have l14 := (cell_at hx2 (i := 14) rfl).1
    have l15 := (cell_at hx2 (i := 15) rfl).1
    have HC0 := Lib.hid (text_w B pb nm M1 Y0 (by omega) hpb N0.out Q0.out (by omega))
    go_wp2_with fail
    rw [← hY]
    clear hY l0 l1 l2 l3 l4 l5 l6 l7 l8 l9 l10 l11 l12 l13 l14 l15
    refine HC0.out.mono ?_
    rintro e Y1 ⟨rfl, hw, hf⟩
    obtain ⟨K1, hK⟩ : ∃ M, M = M1 ++ textB nm := ⟨_, rfl⟩
    rw [← hK] at hw
    have hkl1 : K1.length ≤ 2020 := by
      rw [hK, List.length_append]
      have := Sp.text_lenm (s := nm) (by omega)
      omega
    have hy1 := old_fr hf hy0 (by decide) (by omega)
    have hz1 := old_fr hf hz0 (by decide) (by omega)
    have G1 := Lib.hid (G0.out.trans hf)
    have N1 := Lib.hid (Nat.le_trans N0.out hf.size)
    have Q1 := Lib.hid hw
    have E1 := Lib.hid hK
    clear hw hf hK HC0
    have l0 := (cell_at hz1 (i := 0) rfl).1
    have l1 := (cell_at hz1 (i := 1) rfl).1
    have l2 := (cell_at hz1 (i := 2) rfl).1
    have l3 := (cell_at hz1 (i := 3) rfl).1
    have l4 := (cell_at hz1 (i := 4) rfl).1
    have l5 := (cell_at hz1 (i := 5) rfl).1
    have l6 := (cell_at hz1 (i := 6) rfl).1
    have l7 := (cell_at hz1 (i := 7) rfl).1
    have l8 := (cell_at hz1 (i := 8) rfl).1
    have l9 := (cell_at hz1 (i := 9) rfl).1
    have l10 := (cell_at hz1 (i := 10) rfl).1
    have l11 := (cell_at hz1 (i := 11) rfl).1
    have l12 := (cell_at hz1 (i := 12) rfl).1
    have l13 := (cell_at hz1 (i := 13) rfl).1
    have l14 := (cell_at hz1 (i := 14) rfl).1
    have l15 := (cell_at hz1 (i := 15) rfl).1
    have f0 := (cell_at hy1 (i := 0) rfl).1
    have f1 := (cell_at hy1 (i := 1) rfl).1
    have f2 := (cell_at hy1 (i := 2) rfl).1
    have f3 := (cell_at hy1 (i := 3) rfl).1
    have f4 := (cell_at hy1 (i := 4) rfl).1
    go_wp2_with fail
    go_end0
    refine ⟨rfl, ?_, G1.out⟩
    rw [HTT.out, ← E0.out]
    rw [← E1.out]
    exact Q1.out
  · have HTT := Lib.hid (HT.out.2.2.2.2.2.1 h)
    obtain ⟨b0, b1, b2, b3, b4⟩ := fl_value h
    rw [b0, b1, b2, b3, b4]
    clear b0 b1 b2 b3 b4
    obtain ⟨Y0, hY⟩ : ∃ Y, Y = W2.alloc (.cells #[.bool false, .bool false, .bool false, .bool false, .bool true] 60) := ⟨_, rfl⟩
    have hbY : Below W2.heap.size W2 Y0 := by rw [hY]; exact (Below.refl _ _).alloc (Nat.le_refl _) _
    have hy0 : Y0.heap[W2.heap.size]? = some (.cells #[.bool false, .bool false, .bool false, .bool false, .bool true] 60 (0, 0)) := by rw [hY]; exact heap_alloc_new W2 _
    have hz0 := (hbY.block w.heap.size (by omega)).trans hx2
    have hpw := P2.out.below hbY (by omega) (fun k hk => hk)
    have hsY := hbY.size
    have G0 := Lib.hid (F2.out.trans (Fr.ofBelow hbY (by omega)))
    have Q0 := Lib.hid hpw
    have N0 := Lib.hid (show B ≤ Y0.heap.size by omega)
    have GV := Lib.hid (FV2.out.trans (Fr.ofBelow (pb := pb) hbY (by omega)))
    clear hbY hpw hsY
    have l0 := (cell_at hx2 (i := 0) rfl).1
    have l1 := (cell_at hx2 (i := 1) rfl).1
    have l2 := (cell_at hx2 (i := 2) rfl).1
    have l3 := (cell_at hx2 (i := 3) rfl).1
    have l4 := (cell_at hx2 (i := 4) rfl).1
    have l5 := (cell_at hx2 (i := 5) rfl).1
    have l6 := (cell_at hx2 (i := 6) rfl).1
    have l7 := (cell_at hx2 (i := 7) rfl).1
    have l8 := (cell_at hx2 (i := 8) rfl).1
    have l9 := (cell_at hx2 (i := 9) rfl).1
    have l10 := (cell_at hx2 (i := 10) rfl).1
    have l11 := (cell_at hx2 (i := 11) rfl).1
    have l12 := (cell_at hx2 (i := 12) rfl).1
    have l13 := (cell_at hx2 (i := 13) rfl).1
    have l14 := (cell_at hx2 (i := 14) rfl).1
    have l15 := (cell_at hx2 (i := 15) rfl).1
    have HC0 := Lib.hid (int_w B pb vl M1 Y0 w2 hpb N0.out Q0.out (by omega))
    go_wp2_with fail
    rw [← hY]
    clear hY l0 l1 l2 l3 l4 l5 l6 l7 l8 l9 l10 l11 l12 l13 l14 l15
    refine HC0.out.mono ?_
    rintro e Y1 ⟨rfl, hw, hf⟩
    obtain ⟨K1, hK⟩ : ∃ M, M = M1 ++ Sp.zz vl := ⟨_, rfl⟩
    rw [← hK] at hw
    have hkl1 : K1.length ≤ 2020 := by
      rw [hK, List.length_append]
      have := Sp.zz_len w2
      omega
    have hy1 := old_fr hf hy0 (by decide) (by omega)
    have hz1 := old_fr hf hz0 (by decide) (by omega)
    have G1 := Lib.hid (G0.out.trans hf)
    have N1 := Lib.hid (Nat.le_trans N0.out hf.size)
    have Q1 := Lib.hid hw
    have E1 := Lib.hid hK
    clear hw hf hK HC0
    have l0 := (cell_at hz1 (i := 0) rfl).1
    have l1 := (cell_at hz1 (i := 1) rfl).1
    have l2 := (cell_at hz1 (i := 2) rfl).1
    have l3 := (cell_at hz1 (i := 3) rfl).1
    have l4 := (cell_at hz1 (i := 4) rfl).1
    have l5 := (cell_at hz1 (i := 5) rfl).1
    have l6 := (cell_at hz1 (i := 6) rfl).1
    have l7 := (cell_at hz1 (i := 7) rfl).1
    have l8 := (cell_at hz1 (i := 8) rfl).1
    have l9 := (cell_at hz1 (i := 9) rfl).1
    have l10 := (cell_at hz1 (i := 10) rfl).1
    have l11 := (cell_at hz1 (i := 11) rfl).1
    have l12 := (cell_at hz1 (i := 12) rfl).1
    have l13 := (cell_at hz1 (i := 13) rfl).1
    have l14 := (cell_at hz1 (i := 14) rfl).1
    have l15 := (cell_at hz1 (i := 15) rfl).1
    have f0 := (cell_at hy1 (i := 0) rfl).1
    have f1 := (cell_at hy1 (i := 1) rfl).1
    have f2 := (cell_at hy1 (i := 2) rfl).1
    have f3 := (cell_at hy1 (i := 3) rfl).1
    have f4 := (cell_at hy1 (i := 4) rfl).1
    go_wp2_with fail
    go_end0
    refine ⟨rfl, ?_, G1.out⟩
    rw [HTT.out, ← E0.out]
    rw [← E1.out]
    exact Q1.out
  · have HTT := Lib.hid (HT.out.2.2.2.2.2.2 h)
    obtain ⟨b0, b1, b2, b3, b4⟩ := fl_none h
    rw [b0, b1, b2, b3, b4]
    clear b0 b1 b2 b3 b4
    obtain ⟨Y0, hY⟩ : ∃ Y, Y = W2.alloc (.cells #[.bool false, .bool false, .bool false, .bool false, .bool false] 60) := ⟨_, rfl⟩
    have hbY : Below W2.heap.size W2 Y0 := by rw [hY]; exact (Below.refl _ _).alloc (Nat.le_refl _) _
    have hy0 : Y0.heap[W2.heap.size]? = some (.cells #[.bool false, .bool false, .bool false, .bool false, .bool false] 60 (0, 0)) := by rw [hY]; exact heap_alloc_new W2 _
    have hz0 := (hbY.block w.heap.size (by omega)).trans hx2
    have hpw := P2.out.below hbY (by omega) (fun k hk => hk)
    have hsY := hbY.size
    have G0 := Lib.hid (F2.out.trans (Fr.ofBelow hbY (by omega)))
    have Q0 := Lib.hid hpw
    have N0 := Lib.hid (show B ≤ Y0.heap.size by omega)
    have GV := Lib.hid (FV2.out.trans (Fr.ofBelow (pb := pb) hbY (by omega)))
    clear hbY hpw hsY
    have l0 := (cell_at hx2 (i := 0) rfl).1
    have l1 := (cell_at hx2 (i := 1) rfl).1
    have l2 := (cell_at hx2 (i := 2) rfl).1
    have l3 := (cell_at hx2 (i := 3) rfl).1
    have l4 := (cell_at hx2 (i := 4) rfl).1
    have l5 := (cell_at hx2 (i := 5) rfl).1
    have l6 := (cell_at hx2 (i := 6) rfl).1
    have l7 := (cell_at hx2 (i := 7) rfl).1
    have l8 := (cell_at hx2 (i := 8) rfl).1
    have l9 := (cell_at hx2 (i := 9) rfl).1
    have l10 := (cell_at hx2 (i := 10) rfl).1
    have l11 := (cell_at hx2 (i := 11) rfl).1
    have l12 := (cell_at hx2 (i := 12) rfl).1
    have l13 := (cell_at hx2 (i := 13) rfl).1
    have l14 := (cell_at hx2 (i := 14) rfl).1
    have l15 := (cell_at hx2 (i := 15) rfl).1
    go_wp2_with fail
    rw [← hY]
    go_end0
    exact ⟨rfl, by rw [HTT.out, ← E0.out, List.append_nil]; exact Q0.out, G0.out⟩
end Go.Proofs.Ytfidmjpjfigmcaa.Cm
