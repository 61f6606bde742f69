
/- fires: FiresEras' walk -/
import Derived.Test.YtheaimlfngaaoaaDoorFi10
namespace Go.Proofs.YtheaimlfngaaoaaDoor.Fi
open Go.RowKit Go.Lib Go.Proofs.YtheaimlfngaaoaaDoor.Cn Go.Proofs.YtheaimlfngaaoaaDoor.Rg Go.Proofs.YtheaimlfngaaoaaDoor.Ht
set_option linter.unusedVariables false

theorem eras_long (s : L) (t : Int) (hl : 200 < s.length) (w : World) (hg : Gd w) :
    Calls Tryd.prog 5 #[S s, .int .u32 t] w fun e w' => e = .returned (.bool true) ∧ Below w.heap.size w w' := by
  have hz := size_S s
  have hlI : (200 : Int) < (s.length : Nat) := by omega
  have HG := Lib.hid hg
  clear hg
  go_enter Tryd.func5, Tryd.ntmps5
  go_wp2_with fail
  refine (lives08_any w HG.out).mono ?_
  rintro q w1 ⟨rfl, hb1⟩
  have H1 := Lib.hid hb1
  clear hb1
  go_wp2_with fail
  refine (lives08_any w1 (HG.out.old H1.out)).mono ?_
  rintro q w2 ⟨rfl, hb2⟩
  go_wp2_with fail
  go_ret
  exact ⟨rfl, H1.out.trans (hb2.mono H1.out.size)⟩
set_option maxRecDepth 20000 in
set_option maxHeartbeats 8000000 in
theorem eras_in (s : L) (t : Int) (h0 : 0 ≤ t) (h1 : t ≤ 4294967295) (hl : s.length ≤ 200) (w : World) (hg : Gd w) :
    Calls Tryd.prog 5 #[S s, .int .u32 t] w fun e w' => e = .returned (.bool true) ∧ Below w.heap.size w w' := by
  have hz := size_S s
  have hlI : ((s.length : Nat) : Int) ≤ 200 := by omega
  have hP := fun W hW => parse_any s W hW
  have hok := exOk_parse s
  obtain ⟨X, hX⟩ : ∃ x, x = parseV s := ⟨_, rfl⟩
  obtain ⟨e, he⟩ : ∃ x, x = parseE s := ⟨_, rfl⟩
  rw [← hX, ← he] at hP
  rw [← hX] at hok
  have hA1 := fun W => at_any X hok t (by unfold Ca.I64; omega) W
  have hA2 := fun W => at_any X hok (t + 210379680) (by unfold Ca.I64; omega) W
  have hN1 := fun W hW => next_any X hok t (by unfold Ca.I64; omega) W hW
  have hN2 := fun W hW => next_any X hok (t + 210379680) (by unfold Ca.I64; omega) W hW
  rw [show lo t = t by unfold lo; omega] at hN1
  rw [show lo (t + 210379680) = t + 210379680 by unfold lo; omega] at hN2
  have hE := fun W hW => ever_any X hok W hW
  have HG := Lib.hid hg
  have HX := Lib.hid (And.intro hP (And.intro hA1 (And.intro hA2 (And.intro hN1 (And.intro hN2 hE)))))
  have hmix : Tryd.prog.follows .mixedOrders = true := by kernel_rfl
  clear hP hA1 hA2 hN1 hN2 hE hok hX he hg hl
  go_enter Tryd.func5, Tryd.ntmps5
  go_wp2_with fail
  refine (lives08_any w HG.out).mono ?_
  rintro q w1 ⟨rfl, hb1⟩
  have H1 := Lib.hid hb1
  clear hb1
  go_wp2_with fail
  refine (HX.out.1 w1 (HG.out.old H1.out).gl).mono ?_
  rintro q w2 ⟨rfl, hb⟩
  obtain ⟨V, hV⟩ : ∃ V, V = w2.alloc (.cells (exC X) 26) := ⟨_, rfl⟩
  obtain ⟨a1, a2, a3⟩ := cell_new w2 (exC X) 26
  rw [← hV] at a1 a2 a3
  have hbV := H1.out.trans ((hb.trans (a1.mono hb.size)).mono H1.out.size)
  have hdV : Db V := (HG.out.old hbV).db
  have H2 := Lib.hid (And.intro hV (And.intro hbV (And.intro a2 (And.intro a3 hdV))))
  clear hb hV hbV a1 a2 a3 hdV
  by_cases he0 : e = 0
  · subst he0
    go_wp2_with fail
    rw [← H2.out.1]
    -- REG
    have hlV : w2.heap.size < V.heap.size := (Array.getElem?_eq_some_iff.1 H2.out.2.2.1).1
    have HL := Lib.hid hlV
    clear hlV
    refine begin' 8 (fun Z => Below V.heap.size V Z) hmix (Below.refl V.heap.size V).drew (fun hS0 => ?_)
    refine Ht.takeN (i := 0) ⟨some 29, _, _, _, _, _⟩ (exv X) rfl (Nat.le_refl 8) (by kernel_rfl) (by kernel_rfl) (by kernel_rfl) (by kernel_rfl) hS0 (Or.inl ⟨by rfl, by (intro Z hZ; obtain ⟨⟨c0, c1, c2, c3, c4, c5, c6⟩, _⟩ := seven ((hZ.block _ HL.out).trans H2.out.2.2.1); go_simp)⟩) ?_
    simp only [Act.put, List.setIfInBounds_toArray, List.set_cons_zero, List.set_cons_succ]
    refine Ht.takeN (i := 1) ⟨some 30, _, _, _, _, _⟩ (.int .i64 t) rfl (Nat.le_refl 8) (by kernel_rfl) (by kernel_rfl) (by kernel_rfl) (by kernel_rfl) hS0 (Or.inl ⟨by rfl, by (intro X hX; go_simp)⟩) ?_
    simp only [Act.put, List.setIfInBounds_toArray, List.set_cons_zero, List.set_cons_succ]
    refine Ht.takeN (i := 3) ⟨some 32, _, _, _, _, _⟩ (exv X) rfl (Nat.le_refl 8) (by kernel_rfl) (by kernel_rfl) (by kernel_rfl) (by kernel_rfl) hS0 (Or.inl ⟨by rfl, by (intro Z hZ; obtain ⟨⟨c0, c1, c2, c3, c4, c5, c6⟩, _⟩ := seven ((hZ.block _ HL.out).trans H2.out.2.2.1); go_simp)⟩) ?_
    simp only [Act.put, List.setIfInBounds_toArray, List.set_cons_zero, List.set_cons_succ]
    refine Ht.takeN (i := 4) ⟨some 33, _, _, _, _, _⟩ (.int .i64 t) rfl (Nat.le_refl 8) (by kernel_rfl) (by kernel_rfl) (by kernel_rfl) (by kernel_rfl) hS0 (Or.inl ⟨by rfl, by (intro X hX; go_simp)⟩) ?_
    simp only [Act.put, List.setIfInBounds_toArray, List.set_cons_zero, List.set_cons_succ]
    have hwr := IntWalk.i64_in (t + 210379680) (by omega)
    refine Ht.takeN (i := 5) ⟨some 34, _, _, _, _, _⟩ (.int .i64 (t + 210379680)) rfl (Nat.le_refl 8) (by kernel_rfl) (by kernel_rfl) (by kernel_rfl) (by kernel_rfl) hS0 (Or.inl ⟨by rfl, by (intro X hX; have := hwr; go_simp)⟩) ?_
    simp only [Act.put, List.setIfInBounds_toArray, List.set_cons_zero, List.set_cons_succ]
    refine Ht.step (i := 2) ⟨some 31, _, _, _, _, _⟩ rfl (by kernel_rfl) (by rfl) (fun K hK => ?_)
    refine Ht.enter 14 #[exv X, .int .i64 t] (by have hen := fun args w => enters_of (P := Tryd.prog) Tryd.func14 (by kernel_rfl) rfl args w; go_simp) (HX.out.2.1 _) ?_
    rintro e w3 ⟨⟨b1, rfl, g1⟩, hb3⟩
    have hS1 := hS0.trans (hb3.mono hS0.size)
    clear hb3
    refine ⟨_, rfl, hK _ _ (fun _ => hS1) (fun _ => ?_)⟩
    clear hK K
    simp only [Act.put, List.setIfInBounds_toArray, List.set_cons_zero, List.set_cons_succ]
    refine Ht.step (i := 6) ⟨some 35, _, _, _, _, _⟩ rfl (by kernel_rfl) (by rfl) (fun K hK => ?_)
    refine Ht.enter 14 #[exv X, .int .i64 (t + 210379680)] (by have hen := fun args w => enters_of (P := Tryd.prog) Tryd.func14 (by kernel_rfl) rfl args w; go_simp) (HX.out.2.2.1 _) ?_
    rintro e w4 ⟨⟨b2, rfl, g2⟩, hb4⟩
    have hS2 := hS1.trans (hb4.mono hS1.size)
    clear hb4
    have hbb : b2 = b1 := by
      have k1 := at_nm g1
      have k2 := at_nm g2
      have k3 := nm_era (e := X) h0
      have k4 : b2 = true ↔ b1 = true := by rw [k1, k2, k3]; exact ⟨fun h => ⟨h.1, by omega⟩, fun h => ⟨h.1, by omega⟩⟩
      cases b1 <;> cases b2 <;> simp_all
    subst hbb
    refine ⟨_, rfl, hK _ _ (fun _ => hS2) (fun _ => ?_)⟩
    clear hK K
    simp only [Act.put, List.setIfInBounds_toArray, List.set_cons_zero, List.set_cons_succ]
    refine Ht.takeN (i := 7) ⟨some 36, _, _, _, _, _⟩ (.bool false) rfl (Nat.le_refl 8) (by kernel_rfl) (by kernel_rfl) (by kernel_rfl) (by kernel_rfl) hS2 (Or.inl ⟨by rfl, by (intro Z hZ; cases b2 <;> go_simp)⟩) ?_
    simp only [Act.put, List.setIfInBounds_toArray, List.set_cons_zero, List.set_cons_succ]
    refine done (by kernel_rfl) ?_
    clear hwr g1 g2
    have hd4 := H2.out.2.2.2.2.old hS2
    have hx4 := old_blk hS2 H2.out.2.2.1
    have H4 := Lib.hid (And.intro (H2.out.2.1.trans (hS2.mono H2.out.2.1.size)) (And.intro hx4 hd4))
    clear hS0 hS1 hS2 hd4 hx4
    obtain ⟨⟨c0, c1, c2, c3, c4, c5, c6⟩, _⟩ := seven H4.out.2.1
    go_wp2_with fail
    refine (HX.out.2.2.2.1 _ H4.out.2.2).mono ?_
    rintro q w5 ⟨⟨a, ok, rfl, ha⟩, hb⟩
    have H5 := Lib.hid (And.intro (H4.out.1.trans (hb.mono H4.out.1.size)) (And.intro (old_blk hb H4.out.2.1) (H4.out.2.2.old hb)))
    clear hb c0 c1 c2 c3 c4 c5 c6
    obtain ⟨⟨c0, c1, c2, c3, c4, c5, c6⟩, _⟩ := seven H5.out.2.1
    go_wp2_with fail
    refine (HX.out.2.2.2.2.1 _ H5.out.2.2).mono ?_
    rintro q w6 ⟨⟨b, is, rfl, hb⟩, hbl⟩
    have H6 := Lib.hid (And.intro (H5.out.1.trans (hbl.mono H5.out.1.size)) (And.intro (old_blk hbl H5.out.2.1) (H5.out.2.2.old hbl)))
    clear hbl c0 c1 c2 c3 c4 c5 c6
    obtain ⟨⟨c0, c1, c2, c3, c4, c5, c6⟩, _⟩ := seven H6.out.2.1
    have hE : ∀ W, Db W → Calls Tryd.prog 16 #[exv X] W fun r w' => r = .returned (.bool ok) ∧ is = ok ∧ (ok = true → b = a + 210379680) ∧ Below W.heap.size W w' := fun W hW => by
      refine (HX.out.2.2.2.2.2 W hW).mono ?_
      rintro r w' ⟨⟨ev, rfl, hv⟩, hbl⟩
      obtain ⟨i1, i2, i3⟩ := eras h0 h1 ha hb hv
      exact ⟨by rw [i2], i1, i3, hbl⟩
    have hEE := HX.out.2.2.2.2.2
    have hio : is = ok := by
      rcases ha with ⟨rfl, a1, a2⟩ | ⟨rfl, rfl, a1⟩
      · obtain ⟨e1, e2⟩ := nx_era h0 a1
        exact (hb.same (.inl ⟨rfl, e1, by omega⟩)).2
      · rcases hb with ⟨rfl, h2, _⟩ | ⟨rfl, _⟩
        · exact absurd h2.2.1 (none_ever (by omega) (by omega) a1 _)
        · rfl
    have hab : a ≤ 1099511627776 ∧ 0 ≤ a := by
      rcases ha with ⟨_, a1, a2⟩ | ⟨_, rfl, _⟩
      · exact ⟨a2, nm_nonneg a1.2.1⟩
      · omega
    subst hio
    have HE := Lib.hid hE
    clear hE hEE ha hb
    cases is
    · go_wp2_with fail
      refine (HE.out _ H6.out.2.2).mono ?_
      rintro q w7 ⟨rfl, _, _, hbl⟩
      go_wp2_with fail
      go_ret
      exact ⟨rfl, H6.out.1.trans (hbl.mono H6.out.1.size)⟩
    · go_wp2_with fail
      refine (HE.out _ H6.out.2.2).mono ?_
      rintro q w7 ⟨rfl, _, hba, hbl⟩
      obtain rfl := hba trivial
      go_wp2_with fail
      go_ret
      exact ⟨rfl, H6.out.1.trans (hbl.mono H6.out.1.size)⟩
    -- END
  · have heI : ((e : Int) != 0) = true := by simp; omega
    go_wp2_with fail
    rw [← H2.out.1]
    go_ret
    exact ⟨rfl, H2.out.2.1⟩
theorem eras_law (a : ByteArray) (t : Int) (ht : (Lit.int .u32 t).wf = true) (w : World) (hg : Gd w) :
    Calls Tryd.prog 5 #[.string a, .int .u32 t] w fun e w' => e = .returned (.bool true) ∧ Below w.heap.size w w' := by
  have ht2 : 0 ≤ t ∧ t ≤ 4294967295 := by simpa [Lit.wf, IntKind.min, IntKind.max, IntKind.signed, IntKind.bits] using ht
  rw [show Value.string a = S a.data.toList by cases a; simp [S]]
  by_cases h : a.data.toList.length ≤ 200
  · exact eras_in _ t ht2.1 ht2.2 h w hg
  · exact eras_long _ t (by omega) w hg
end Go.Proofs.YtheaimlfngaaoaaDoor.Fi
