
/- fires: FiresBetween's walk -/
import Derived.Test.YtheaimlfngaaoaaDoorFi18
namespace Go.Proofs.YtheaimlfngaaoaaDoor.Fi
open Go.RowKit Go.Lib Go.Proofs.YtheaimlfngaaoaaDoor.Cn Go.Proofs.YtheaimlfngaaoaaDoor.Rg Go.Proofs.YtheaimlfngaaoaaDoor.Ht
attribute [local go_sem] Oper.semAt_some
set_option linter.unusedVariables false

set_option maxRecDepth 20000 in
set_option maxHeartbeats 16000000 in
theorem between_in (s : L) (a to most : Int) (ha : Ca.I64 a) (ht : Ca.I64 to) (hm : Ca.I64 most) (w : World) (hg : Gd w) :
    Calls Tryd.prog 4 #[S s, .int .i64 a, .int .i64 to, .int .i64 most] w fun e w' => e = .returned (.bool true) ∧ Below w.heap.size w w' := by
  have hz := size_S s
  have hP := fun W hW => parse_any s W hW
  have hok := exOk_parse s
  obtain ⟨X, hX⟩ : ∃ x, x = parseV s := ⟨_, rfl⟩
  obtain ⟨e, he⟩ : ∃ x, x = parseE s := ⟨_, rfl⟩
  rw [← hX, ← he] at hP
  rw [← hX] at hok
  have hlo : -1 ≤ lo a ∧ lo a ≤ 9223372036854775807 := by unfold lo; unfold Ca.I64 at ha; omega
  have hup : -9223372036854775808 ≤ up to ∧ up to ≤ 1099511627776 ∧ up to ≤ to := by unfold up; unfold Ca.I64 at ht; omega
  have HX := Lib.hid (And.intro hP hok)
  have HI := Lib.hid (And.intro ha (And.intro ht hm))
  have hmix : Tryd.prog.follows .mixedOrders = true := by kernel_rfl
  obtain ⟨V0, hV0⟩ : ∃ V, V = (w.alloc (.cells #[.int .i64 to] 2)).alloc (.cells #[.bool false] 4) := ⟨_, rfl⟩
  obtain ⟨b1, b2, b3, b4⟩ := two_new w #[.int .i64 to] 2 #[.bool false] 4
  rw [← hV0] at b1 b2 b3 b4
  have H0 := Lib.hid (And.intro hV0 (And.intro b1 (And.intro b2 (And.intro b3 (And.intro b4 (And.intro (hg.old b1) hg.db))))))
  unfold Ca.I64 at ha ht hm
  clear hP hok hX he hV0 b1 b2 b3 b4 hg
  refine (callsIn_wide (n := 9)).1 ?_
  refine callsIn_of_wp_marks Tryd.func4 rfl trivial ?_ rfl
  simp only [Tryd.ntmps4, List.size_toArray, List.length_cons, List.length_nil, Nat.reduceAdd, Nat.reduceSub, Array.replicate_succ, Array.replicate_zero, List.push_toArray, List.append_toArray, List.nil_append, List.cons_append]
  refine wpIn_wide.2 ?_
  go_wp2_with fail
  rw [← H0.out.1]
  refine (lives08_any V0 H0.out.2.2.2.2.2.1).mono ?_
  rintro q w1 ⟨rfl, hb1⟩
  obtain ⟨z1, zf⟩ := one_cell (old_blk hb1 H0.out.2.2.2.1)
  have hl1 : w.heap.size + 1 < w1.heap.size := by have := hb1.size; have := H0.out.2.2.2.2.1; omega
  have H1 := Lib.hid hb1
  clear hb1
  by_cases hlong : (200 : Int) < ((s.length : Nat) : Int)
  case pos =>
    go_wp2_with fail
    refine (lives08_any w1 (H0.out.2.2.2.2.2.1.old H1.out)).mono ?_
    rintro q w2 ⟨rfl, hb2⟩
    have hbl := H1.out.trans (hb2.mono H1.out.size)
    obtain ⟨z2, zf2⟩ := one_cell (old_blk hbl H0.out.2.2.2.1)
    have hl2 : w.heap.size + 1 < w2.heap.size := by have := hb2.size; omega
    have H2 := Lib.hid (And.intro (old_blk hbl H0.out.2.2.2.1) (H0.out.2.1.trans (hbl.mono H0.out.2.1.size)))
    clear hb2 hbl z1 zf
    go_wp2_with fail
    obtain ⟨r1, r2⟩ := res_st (w := w) (v := .bool true) H2.out.1 H2.out.2
    exact leaveB0 rfl rfl r1 ⟨rfl, r2⟩
  have hlong' : ((s.length : Nat) : Int) ≤ 200 := by omega
  clear hlong
  go_wp2_with fail
  refine (HX.out.1 w1 (H0.out.2.2.2.2.2.1.old H1.out).gl).mono ?_
  rintro q w2 ⟨rfl, hb2⟩
  have hbl := H1.out.trans (hb2.mono H1.out.size)
  have hl2 : w.heap.size + 1 < w2.heap.size := by have := hb2.size; omega
  have hl0 : w.heap.size < w2.heap.size := by omega
  obtain ⟨z2, zf2⟩ := one_cell (old_blk hbl H0.out.2.2.2.1)
  obtain ⟨y2, yf2⟩ := one_cell (old_blk hbl H0.out.2.2.1)
  have H2 := Lib.hid hbl
  clear hb2 hbl z1 zf hl1
  by_cases he0 : e = 0
  case neg =>
    have heI : ((e : Int) != 0) = true := by simp; omega
    obtain ⟨r1, r2⟩ := res_st (w := w) (v := .bool true) (old_blk H2.out H0.out.2.2.2.1) (H0.out.2.1.trans (H2.out.mono H0.out.2.1.size))
    have hlz : w.heap.size + 1 < (w2.setCell ⟨w.heap.size + 1, 0, none⟩ (.bool true)).heap.size := by simpa using hl2
    have hlz2 : w.heap.size ≤ (w2.setCell ⟨w.heap.size + 1, 0, none⟩ (.bool true)).heap.size := by omega
    have HR := Lib.hid (And.intro r1 (And.intro r2 (And.intro hlz hlz2)))
    clear r1 r2 hlz hlz2
    go_wp2_with fail
    refine leaveB0 rfl rfl ((Below.heap_alloc _ _ _ HR.out.2.2.1).trans HR.out.1) ⟨rfl, HR.out.2.1.alloc HR.out.2.2.2 _⟩
  subst he0
  have hl0a : w.heap.size < w2.heap.size + 1 := by omega
  have hl0b : w.heap.size < w2.heap.size + 1 + 1 := by omega
  have hl0c : w.heap.size < w2.heap.size + 1 + 1 + 1 := by omega
  obtain ⟨V, hV⟩ : ∃ V, V = (((w2.alloc (.cells (exC X) 26)).alloc (.cells #[.int .i64 0] 3)).alloc (.cells #[.int .i64 a] 2)).alloc (.cells #[.bool true] 4) := ⟨_, rfl⟩
  obtain ⟨v1, v2, v3, v4, v5, v6⟩ := four_new w2 (exC X) #[.int .i64 0] #[.int .i64 a] #[.bool true] 26 3 2 4 hV
  have hdV : Db V := (H0.out.2.2.2.2.2.1.old (H2.out.trans (v1.mono H2.out.size))).db
  have hfi : FI w X (lo a) to (up to) w2.heap.size (lo a) V := ⟨old_blk v1 (old_blk H2.out H0.out.2.2.1), old_blk v1 (old_blk H2.out H0.out.2.2.2.1), v2, by rw [cnt_self X (Int.le_refl _)]; exact v3, ⟨a, rfl, HI.out.1, v4⟩, v5, by rw [cnt_self X (Int.le_refl _)]; omega, Int.le_refl _, .inl rfl,
    H0.out.2.1.trans ((H2.out.trans (v1.mono H2.out.size)).mono H0.out.2.1.size), hdV⟩
  have hgd : 1 < w.heap.size := Db.lt (w := w) H0.out.2.2.2.2.2.2
  have hbt := between_any X a to HI.out.1 HI.out.2.1 V hdV
  have H3 := Lib.hid (And.intro hV (And.intro hfi (And.intro hbt (And.intro v6 hgd))))
  clear hV v1 v2 v3 v4 v5 v6 hdV hfi hgd hbt
  go_wp2_with fail
  rw [← H3.out.1]
  clear y2 yf2 z2 zf2
  refine H3.out.2.2.1.mono ?_
  rintro q w4 ⟨rfl, hb4, hdb⟩
  have hfi4 := H3.out.2.1.keep hb4 (by have := H3.out.2.2.2.1; omega) (by have := H3.out.2.2.2.1; omega) (by have := H3.out.2.2.2.1; have := H3.out.2.2.2.2; omega) (by have := H3.out.2.2.2.1; omega)
  have hz4 := hb4.size
  have H4 := Lib.hid (And.intro hdb (And.intro hfi4 hz4))
  clear hb4 hdb hfi4 hz4
  go_wp2_with fail
  refine (wpIn_wide (n := 9)).1 ?_
  have hzV := H3.out.2.2.2.1
  have hg64 := H3.out.2.2.2.2
  have HZ := Lib.hid (And.intro hzV (And.intro hg64 H4.out.2.2))
  clear hzV hg64
  refine range_int (own := fun k => k = w2.heap.size + 1 ∨ k = w2.heap.size + 2) (box := tbox V.heap.size) (x0 := lo a) (G := BG X (up to)) (S := BS X (up to)) rfl (by omega) (gf := 25) (lb := betB V.heap.size) rfl trivial (enters_of Tryd.func25 (by kernel_rfl) rfl)
    (between_iter _ V.heap.size X HX.out.2 (lo a) (up to) hlo ⟨hup.1, hup.2.1⟩ w4 H4.out.1) (fun k hk => ⟨fun h => ?hb, ?hlt⟩) rfl
    (FI w X (lo a) to (up to) w2.heap.size) (FX w X (lo a) to (up to) w2.heap.size) (fun x A A' h hc => have h1 := HZ.out; h.keep hc (by omega) (by omega) (by omega) (by omega))
    (fun k x A A' h hc => have h1 := HZ.out; h.keep hc (by omega) (by omega) (by omega) (by omega)) H4.out.2.1 ?hround ?hdone ?hstop
  case hb =>
    have h1 := HZ.out
    rcases h with h | h | h | h <;> omega
  case hlt =>
    have h1 := HZ.out
    omega
  case hround =>
    rintro l x y A hlB ⟨rr, hlr⟩ hzA hI hG
    clear hI hlr
    gi_wp2_with fail
    refine ⟨Below.refl _ _, ?_⟩
    intro A2 hbut _ hI
    have hzA2 : w4.heap.size ≤ A2.heap.size := by have := hbut.2.2.2.1; omega
    obtain ⟨v, hv1, hv2, hv3⟩ := hI.l
    have hnext := next_known HX.out.2 (a := v) hv2 (x := y) (ok := true) (.inl ⟨rfl, by rw [hv1]; exact hG.1, by have := hG.2; omega⟩) A2 hI.d
    have hat := fun W => at_yes HX.out.2 hG.1.2.1 (by have := hG.2; omega) W
    have hyt : y ≤ to := by have := hG.2; omega
    obtain ⟨⟨c0, c1, c2, c3, c4, c5, c6⟩, _⟩ := seven hI.e
    obtain ⟨kl, _⟩ := one_cell hv3
    have HI2 := Lib.hid (And.intro hI (And.intro hG (And.intro hnext (And.intro hat hzA2))))
    clear hI hG hnext hat hbut hv1 hv2 hv3 hzA2 hzA
    gi_wp2_with fail
    refine ⟨trivial, CallsIn.inRound l ((callsIn_wide.2 HI2.out.2.2.1).mono ?_)⟩
    rintro q A3 ⟨rfl, hb3⟩
    have h3 := HI2.out.1.keep hb3 (by have := HZ.out; have := HI2.out.2.2.2.2; omega) (by have := HZ.out; have := HI2.out.2.2.2.2; omega) (by have := HZ.out; have := HI2.out.2.2.2.2; omega) (by have := HZ.out; have := HI2.out.2.2.2.2; omega)
    have hz3 := Nat.le_trans HI2.out.2.2.2.2 hb3.size
    clear c0 c1 c2 c3 c4 c5 c6 kl
    obtain ⟨⟨c0, c1, c2, c3, c4, c5, c6⟩, _⟩ := seven h3.e
    obtain ⟨kt, _⟩ := one_cell h3.t
    have H33 := Lib.hid (And.intro h3 (And.intro hb3 hz3))
    clear h3 hb3 hz3
    gi_wp2_with fail
    refine ⟨trivial, CallsIn.inRound l ((callsIn_wide.2 (HI2.out.2.2.2.1 A3)).mono ?_)⟩
    rintro q A4 ⟨rfl, hb4⟩
    have h4 := H33.out.1.keep hb4 (by have := HZ.out; have := H33.out.2.2; omega) (by have := HZ.out; have := H33.out.2.2; omega) (by have := HZ.out; have := H33.out.2.2; omega) (by have := HZ.out; have := H33.out.2.2; omega)
    have hbb := H33.out.2.1.trans (hb4.mono H33.out.2.1.size)
    have hz4 := Nat.le_trans H33.out.2.2 hb4.size
    obtain ⟨v', _, _, hv3'⟩ := h4.l
    clear c0 c1 c2 c3 c4 c5 c6 kt
    obtain ⟨kl, fl⟩ := one_cell hv3'
    obtain ⟨kn, fn⟩ := one_cell h4.n
    obtain ⟨kw, fw⟩ := one_cell h4.wh
    have hlt := h4.lt
    have hq1 : w2.heap.size + 1 < A4.heap.size := (Array.getElem?_eq_some_iff.1 h4.n).1
    have hq2 : w2.heap.size + 1 + 1 < A4.heap.size := (Array.getElem?_eq_some_iff.1 hv3').1
    have hq3 : w2.heap.size + 1 + 1 + 1 < A4.heap.size := (Array.getElem?_eq_some_iff.1 h4.wh).1
    have hnxt := fun h59 => FI.next (Z := _) h4 HI2.out.2.1.1 HI2.out.2.1.2 hup.2.1 hl2 (by have := HZ.out; omega) h59 rfl
    have hstp := fun h59 => FI.stop (Z := _) h4 HI2.out.2.1.1 HI2.out.2.1.2 hup.2.1 hl2 (by have := HZ.out; omega) h59 rfl
    have H44 := Lib.hid (And.intro hnxt (And.intro hstp (And.intro hbb hz4)))
    clear h4 hbb hz4 hb4 hnxt hstp hv3'
    generalize cnt X (lo a) x = m at hlt kn H44
    -- ENDS
    by_cases h60 : m + 1 = 60
    · have hmI : ((m : Nat) : Int) + 1 = 60 := by omega
      gi_wp2_with fail
      obtain ⟨g1, g2⟩ := H44.out.2.1 h60
      have h9 := HZ.out
      exact ⟨((BelowO.of H44.out.2.2.1).trans g2).weak (fun k hk => by omega), g1⟩
    · have hmI : ¬ ((m : Nat) : Int) + 1 = 60 := by omega
      gi_wp2_with fail
      obtain ⟨g1, g2⟩ := H44.out.1 (by omega)
      exact ⟨(BelowO.of H44.out.2.2.1).trans g2, g1⟩
  case hdone =>
    intro D x Z hD hS hI hK
    dsimp only
    have hS := hS
    obtain ⟨v, hv1, hv2, hv3⟩ := hI.l
    have hnx := next_any X HX.out.2 v hv2 Z hI.d
    rw [hv1] at hnx
    have hEq := ctd_same (X := X) (a := a) (t := to) (most := most) (n := cnt X (lo a) x) (.inl ⟨cnt_end hI.ge hI.le hS, hI.lt⟩)
    obtain ⟨⟨c0, c1, c2, c3, c4, c5, c6⟩, _⟩ := seven hI.e
    obtain ⟨kl, _⟩ := one_cell hv3
    have hZz : w4.heap.size ≤ Z.heap.size := by have := (Array.getElem?_eq_some_iff.1 hK).1; omega
    have HA := Lib.hid (And.intro hI (And.intro hK (And.intro hD (And.intro hS (And.intro hnx hZz)))))
    clear hI hK hD hS hnx hv1 hv2 hv3 hZz
    go_wp2_with fail
    refine HA.out.2.2.2.2.1.mono ?_
    rintro q Y ⟨⟨tt, ok, rfl, hn⟩, hb2⟩
    have hY := HA.out.1.keep hb2 (by have := HZ.out; have := HA.out.2.2.2.2.2; omega) (by have := HZ.out; have := HA.out.2.2.2.2.2; omega) (by have := HZ.out; have := HA.out.2.2.2.2.2; omega) (by have := HZ.out; have := HA.out.2.2.2.2.2; omega)
    have hfar : ok = true → to < tt := fun hok => by
      rcases hn with ⟨_, h1, h2⟩ | ⟨h1, _⟩
      · have h3 := HA.out.2.2.2.1 tt h1.1
        have h4 : ¬ tt ≤ up to := fun h => h3 h h1.2.1
        unfold up at h4
        omega
      · rw [hok] at h1; cases h1
    have HY := Lib.hid (And.intro hY (And.intro (old_blk hb2 HA.out.2.1) (And.intro HA.out.2.2.1 hY.n)))
    obtain ⟨kt, _⟩ := one_cell hY.t
    obtain ⟨kw, _⟩ := one_cell hY.wh
    clear hb2 hY hn c0 c1 c2 c3 c4 c5 c6 kl HA
    generalize cnt X (lo a) x = N at hEq HY
    cases ok
    case' false =>
      go_wp2_with fail
    case' true =>
      have hf := hfar rfl
      go_wp2_with fail
    all_goals
      have hM := fun W hW => Count_any X HX.out.2 a to (min most 60) HI.out.1 HI.out.2.1 (by have := HI.out.2.2; unfold Ca.I64 at *; omega) W hW
      generalize ctd X a to (min most 60) = R at hM hEq
      have HM := Lib.hid hM
      clear hM
      obtain ⟨M, hMM⟩ : ∃ M, M = min most 60 := ⟨_, rfl⟩
      rw [← hMM] at HM hEq ⊢
      have hMb : M ≤ 60 ∧ -9223372036854775808 ≤ M := by omega
      clear hMM
      refine begin' 10 (fun Q => Below Y.heap.size Y Q) hmix (Below.refl Y.heap.size Y).drew (fun hS0 => ?_)
      refine Ht.takeD 8 (i := 0) ⟨some 86, _, _, _, _, _⟩ (exv X) rfl (by kernel_rfl) (by kernel_rfl) (by decide) (by kernel_rfl) (by kernel_rfl) (by kernel_rfl) hS0 (Or.inl ⟨by rfl, by (intro Q hQ; obtain ⟨⟨c0, c1, c2, c3, c4, c5, c6⟩, _⟩ := seven (old_blk hQ HY.out.1.e); go_simp)⟩) ?_
      simp only [Act.put, List.setIfInBounds_toArray, List.set_cons_zero, List.set_cons_succ]
      refine Ht.takeD 8 (i := 1) ⟨some 87, _, _, _, _, _⟩ (.int .i64 a) rfl (by kernel_rfl) (by kernel_rfl) (by decide) (by kernel_rfl) (by kernel_rfl) (by kernel_rfl) hS0 (Or.inl ⟨by rfl, by (intro X hX; go_simp)⟩) ?_
      simp only [Act.put, List.setIfInBounds_toArray, List.set_cons_zero, List.set_cons_succ]
      refine Ht.takeD 8 (i := 2) ⟨some 88, _, _, _, _, _⟩ (.int .i64 to) rfl (by kernel_rfl) (by kernel_rfl) (by decide) (by kernel_rfl) (by kernel_rfl) (by kernel_rfl) hS0 (Or.inl ⟨by rfl, by (intro Q hQ; obtain ⟨k1, _⟩ := one_cell (old_blk hQ HY.out.1.t); go_simp)⟩) ?_
      simp only [Act.put, List.setIfInBounds_toArray, List.set_cons_zero, List.set_cons_succ]
      refine Ht.takeD 8 (i := 3) ⟨some 89, _, _, _, _, _⟩ (.int .i64 M) rfl (by kernel_rfl) (by kernel_rfl) (by decide) (by kernel_rfl) (by kernel_rfl) (by kernel_rfl) hS0 (Or.inl ⟨by rfl, by (intro X hX; go_simp)⟩) ?_
      simp only [Act.put, List.setIfInBounds_toArray, List.set_cons_zero, List.set_cons_succ]
      refine Ht.takeD 8 (i := 5) ⟨some 91, _, _, _, _, _⟩ (.int .i64 ((N : Nat))) rfl (by kernel_rfl) (by kernel_rfl) (by decide) (by kernel_rfl) (by kernel_rfl) (by kernel_rfl) hS0 (Or.inl ⟨by rfl, by (intro Q hQ; obtain ⟨k1, _⟩ := one_cell (old_blk hQ HY.out.2.2.2); go_simp)⟩) ?_
      simp only [Act.put, List.setIfInBounds_toArray, List.set_cons_zero, List.set_cons_succ]
      refine Ht.takeD 8 (i := 6) ⟨some 92, _, _, _, _, _⟩ (.int .i64 M) rfl (by kernel_rfl) (by kernel_rfl) (by decide) (by kernel_rfl) (by kernel_rfl) (by kernel_rfl) hS0 (Or.inl ⟨by rfl, by (intro X hX; go_simp)⟩) ?_
      simp only [Act.put, List.setIfInBounds_toArray, List.set_cons_zero, List.set_cons_succ]
      refine Ht.takeD 8 (i := 7) ⟨some 93, _, _, _, _, _⟩ (.int .i64 (min ((N : Nat)) M)) rfl (by kernel_rfl) (by kernel_rfl) (by decide) (by kernel_rfl) (by kernel_rfl) (by kernel_rfl) hS0 (Or.inl ⟨by rfl, by (intro X hX; go_simp)⟩) ?_
      simp only [Act.put, List.setIfInBounds_toArray, List.set_cons_zero, List.set_cons_succ]
      refine Ht.takeD 8 (i := 8) ⟨some 94, _, _, _, _, _⟩ (.int .i64 (max 0 (min ((N : Nat)) M))) rfl (by kernel_rfl) (by kernel_rfl) (by decide) (by kernel_rfl) (by kernel_rfl) (by kernel_rfl) hS0 (Or.inl ⟨by rfl, by (intro X hX; go_simp)⟩) ?_
      simp only [Act.put, List.setIfInBounds_toArray, List.set_cons_zero, List.set_cons_succ]
      refine Ht.step (i := 4) ⟨some 90, _, _, _, _, _⟩ rfl (by kernel_rfl) (by rfl) (fun K hK => ?_)
      refine Ht.enter 15 #[exv X, .int .i64 a, .int .i64 to, .int .i64 M] (by have hen := fun args w => enters_of (P := Tryd.prog) Tryd.func15 (by kernel_rfl) rfl args w; go_simp) (HM.out _ (HY.out.1.d.old hS0)) ?_
      rintro e Y2 ⟨rfl, hbl⟩
      have hS1 := hS0.trans (hbl.mono hS0.size)
      clear hbl
      refine ⟨_, rfl, hK _ _ (fun _ => hS1) (fun _ => ?_)⟩
      clear hK K
      simp only [Act.put, List.setIfInBounds_toArray, List.set_cons_zero, List.set_cons_succ]
      refine Ht.takeD 8 (i := 9) ⟨some 95, _, _, _, _, _⟩ (.bool true) rfl (by kernel_rfl) (by kernel_rfl) (by decide) (by kernel_rfl) (by kernel_rfl) (by kernel_rfl) hS1 (Or.inl ⟨by rfl, by (intro X hX; have := hEq; go_simp)⟩) ?_
      simp only [Act.put, List.setIfInBounds_toArray, List.set_cons_zero, List.set_cons_succ]
      have hres := old_blk hS1 HY.out.1.r
      have hDk := old_blk hS1 HY.out.2.1
      have hw9 := HY.out.1.b.trans (hS1.mono HY.out.1.b.size)
      obtain ⟨k1, f1⟩ := one_cell hres
      have hlt9 : w.heap.size + 1 < Y2.heap.size := (Array.getElem?_eq_some_iff.1 hres).1
      have HE := Lib.hid (And.intro hres (And.intro hDk hw9))
      clear hres hDk hw9 hS1 hS0
      refine Ht.step (i := 10) ⟨none, _, _, _, _, _⟩ rfl (by kernel_rfl) (by rfl) (fun K hK => ?_)
      go_simp
      refine hK _ _ (fun h => absurd rfl h) (fun _ => ?_)
      clear hK K
      refine done (by kernel_rfl) ?_
      go_wp2_with fail
      obtain ⟨g1, g2⟩ := res_st (w := w) (v := .bool true) HE.out.1 HE.out.2.2
      have hDz := HY.out.2.2.1
      have hbut := but_put D (Y2.setCell ⟨w.heap.size + 1, 0, none⟩ (.bool true)) (.deferred none)
      have hz9 := HZ.out
      refine leaveD ((heap_setCell_other _ _ _ _ (by simp; omega)).trans HE.out.2.1) (results_b (fn := Tryd.f4) (r := 8) (b := w.heap.size + 1) (v := .bool true) rfl rfl ((hbut.2.2.2.2 _ (by omega)).trans g1)) ⟨rfl, g2.trans (hbut.below (by omega))⟩
  case hstop =>
    rintro D k x Z hD h hK
    obtain rfl := h.k
    obtain ⟨v, hv2, hv3⟩ := h.l
    have hnx := next_any X HX.out.2 v hv2 Z h.d
    have hEq := ctd_same (X := X) (a := a) (t := to) (most := most) (n := 60) (.inr ⟨h.ge, rfl⟩)
    obtain ⟨⟨c0, c1, c2, c3, c4, c5, c6⟩, _⟩ := seven h.e
    obtain ⟨kl, _⟩ := one_cell hv3
    have hZz : w4.heap.size ≤ Z.heap.size := by have := (Array.getElem?_eq_some_iff.1 hK).1; omega
    have HA := Lib.hid (And.intro h (And.intro hK (And.intro hD (And.intro hnx hZz))))
    clear h hK hD hnx hv2 hv3 hZz
    gi_wp2_with fail
    go_wp2_with fail
    refine HA.out.2.2.2.1.mono ?_
    rintro q Y ⟨⟨tt, ok, rfl, hn⟩, hb2⟩
    have hY := HA.out.1.keep hb2 (by have := HZ.out; have := HA.out.2.2.2.2; omega) (by have := HZ.out; have := HA.out.2.2.2.2; omega) (by have := HZ.out; have := HA.out.2.2.2.2; omega) (by have := HZ.out; have := HA.out.2.2.2.2; omega)
    have HY := Lib.hid (And.intro hY (And.intro (old_blk hb2 HA.out.2.1) (And.intro HA.out.2.2.1 hY.n)))
    obtain ⟨kt, _⟩ := one_cell hY.t
    obtain ⟨kw, _⟩ := one_cell hY.wh
    clear hb2 hY hn c0 c1 c2 c3 c4 c5 c6 kl HA
    go_wp2_with fail
    have hM := fun W hW => Count_any X HX.out.2 a to (min most 60) HI.out.1 HI.out.2.1 (by have := HI.out.2.2; unfold Ca.I64 at *; omega) W hW
    generalize ctd X a to (min most 60) = R at hM hEq
    have HM := Lib.hid hM
    clear hM
    obtain ⟨M, hMM⟩ : ∃ M, M = min most 60 := ⟨_, rfl⟩
    rw [← hMM] at HM hEq ⊢
    have hMb : M ≤ 60 ∧ -9223372036854775808 ≤ M := by omega
    clear hMM
    refine begin' 10 (fun Q => Below Y.heap.size Y Q) hmix (Below.refl Y.heap.size Y).drew (fun hS0 => ?_)
    refine Ht.takeD 8 (i := 0) ⟨some 86, _, _, _, _, _⟩ (exv X) rfl (by kernel_rfl) (by kernel_rfl) (by decide) (by kernel_rfl) (by kernel_rfl) (by kernel_rfl) hS0 (Or.inl ⟨by rfl, by (intro Q hQ; obtain ⟨⟨c0, c1, c2, c3, c4, c5, c6⟩, _⟩ := seven (old_blk hQ HY.out.1.e); go_simp)⟩) ?_
    simp only [Act.put, List.setIfInBounds_toArray, List.set_cons_zero, List.set_cons_succ]
    refine Ht.takeD 8 (i := 1) ⟨some 87, _, _, _, _, _⟩ (.int .i64 a) rfl (by kernel_rfl) (by kernel_rfl) (by decide) (by kernel_rfl) (by kernel_rfl) (by kernel_rfl) hS0 (Or.inl ⟨by rfl, by (intro X hX; go_simp)⟩) ?_
    simp only [Act.put, List.setIfInBounds_toArray, List.set_cons_zero, List.set_cons_succ]
    refine Ht.takeD 8 (i := 2) ⟨some 88, _, _, _, _, _⟩ (.int .i64 to) rfl (by kernel_rfl) (by kernel_rfl) (by decide) (by kernel_rfl) (by kernel_rfl) (by kernel_rfl) hS0 (Or.inl ⟨by rfl, by (intro Q hQ; obtain ⟨k1, _⟩ := one_cell (old_blk hQ HY.out.1.t); go_simp)⟩) ?_
    simp only [Act.put, List.setIfInBounds_toArray, List.set_cons_zero, List.set_cons_succ]
    refine Ht.takeD 8 (i := 3) ⟨some 89, _, _, _, _, _⟩ (.int .i64 M) rfl (by kernel_rfl) (by kernel_rfl) (by decide) (by kernel_rfl) (by kernel_rfl) (by kernel_rfl) hS0 (Or.inl ⟨by rfl, by (intro X hX; go_simp)⟩) ?_
    simp only [Act.put, List.setIfInBounds_toArray, List.set_cons_zero, List.set_cons_succ]
    refine Ht.takeD 8 (i := 5) ⟨some 91, _, _, _, _, _⟩ (.int .i64 (60)) rfl (by kernel_rfl) (by kernel_rfl) (by decide) (by kernel_rfl) (by kernel_rfl) (by kernel_rfl) hS0 (Or.inl ⟨by rfl, by (intro Q hQ; obtain ⟨k1, _⟩ := one_cell (old_blk hQ HY.out.2.2.2); go_simp)⟩) ?_
    simp only [Act.put, List.setIfInBounds_toArray, List.set_cons_zero, List.set_cons_succ]
    refine Ht.takeD 8 (i := 6) ⟨some 92, _, _, _, _, _⟩ (.int .i64 M) rfl (by kernel_rfl) (by kernel_rfl) (by decide) (by kernel_rfl) (by kernel_rfl) (by kernel_rfl) hS0 (Or.inl ⟨by rfl, by (intro X hX; go_simp)⟩) ?_
    simp only [Act.put, List.setIfInBounds_toArray, List.set_cons_zero, List.set_cons_succ]
    refine Ht.takeD 8 (i := 7) ⟨some 93, _, _, _, _, _⟩ (.int .i64 (min (60) M)) rfl (by kernel_rfl) (by kernel_rfl) (by decide) (by kernel_rfl) (by kernel_rfl) (by kernel_rfl) hS0 (Or.inl ⟨by rfl, by (intro X hX; go_simp)⟩) ?_
    simp only [Act.put, List.setIfInBounds_toArray, List.set_cons_zero, List.set_cons_succ]
    refine Ht.takeD 8 (i := 8) ⟨some 94, _, _, _, _, _⟩ (.int .i64 (max 0 (min (60) M))) rfl (by kernel_rfl) (by kernel_rfl) (by decide) (by kernel_rfl) (by kernel_rfl) (by kernel_rfl) hS0 (Or.inl ⟨by rfl, by (intro X hX; go_simp)⟩) ?_
    simp only [Act.put, List.setIfInBounds_toArray, List.set_cons_zero, List.set_cons_succ]
    refine Ht.step (i := 4) ⟨some 90, _, _, _, _, _⟩ rfl (by kernel_rfl) (by rfl) (fun K hK => ?_)
    refine Ht.enter 15 #[exv X, .int .i64 a, .int .i64 to, .int .i64 M] (by have hen := fun args w => enters_of (P := Tryd.prog) Tryd.func15 (by kernel_rfl) rfl args w; go_simp) (HM.out _ (HY.out.1.d.old hS0)) ?_
    rintro e Y2 ⟨rfl, hbl⟩
    have hS1 := hS0.trans (hbl.mono hS0.size)
    clear hbl
    refine ⟨_, rfl, hK _ _ (fun _ => hS1) (fun _ => ?_)⟩
    clear hK K
    simp only [Act.put, List.setIfInBounds_toArray, List.set_cons_zero, List.set_cons_succ]
    refine Ht.takeD 8 (i := 9) ⟨some 95, _, _, _, _, _⟩ (.bool true) rfl (by kernel_rfl) (by kernel_rfl) (by decide) (by kernel_rfl) (by kernel_rfl) (by kernel_rfl) hS1 (Or.inl ⟨by rfl, by (intro X hX; have := hEq; go_simp)⟩) ?_
    simp only [Act.put, List.setIfInBounds_toArray, List.set_cons_zero, List.set_cons_succ]
    have hres := old_blk hS1 HY.out.1.r
    have hDk := old_blk hS1 HY.out.2.1
    have hw9 := HY.out.1.b.trans (hS1.mono HY.out.1.b.size)
    obtain ⟨k1, f1⟩ := one_cell hres
    have hlt9 : w.heap.size + 1 < Y2.heap.size := (Array.getElem?_eq_some_iff.1 hres).1
    have HE := Lib.hid (And.intro hres (And.intro hDk hw9))
    clear hres hDk hw9 hS1 hS0
    refine Ht.step (i := 10) ⟨none, _, _, _, _, _⟩ rfl (by kernel_rfl) (by rfl) (fun K hK => ?_)
    go_simp
    refine hK _ _ (fun h => absurd rfl h) (fun _ => ?_)
    clear hK K
    refine done (by kernel_rfl) ?_
    go_wp2_with fail
    obtain ⟨g1, g2⟩ := res_st (w := w) (v := .bool true) HE.out.1 HE.out.2.2
    have hDz := HY.out.2.2.1
    have hbut := but_put D (Y2.setCell ⟨w.heap.size + 1, 0, none⟩ (.bool true)) (.deferred none)
    have hz9 := HZ.out
    refine leaveD ((heap_setCell_other _ _ _ _ (by simp; omega)).trans HE.out.2.1) (results_b (fn := Tryd.f4) (r := 8) (b := w.heap.size + 1) (v := .bool true) rfl rfl ((hbut.2.2.2.2 _ (by omega)).trans g1)) ⟨rfl, g2.trans (hbut.below (by omega))⟩
end Go.Proofs.YtheaimlfngaaoaaDoor.Fi
