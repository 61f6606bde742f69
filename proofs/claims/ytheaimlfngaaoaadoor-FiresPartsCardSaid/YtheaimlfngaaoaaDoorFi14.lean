
/- fires: FiresParts' walk -/
import Derived.Test.YtheaimlfngaaoaaDoorFi13
namespace Go.Proofs.YtheaimlfngaaoaaDoor.Fi
open Go.RowKit Go.Lib Go.Proofs.YtheaimlfngaaoaaDoor.Cn Go.Proofs.YtheaimlfngaaoaaDoor.Rg Go.Proofs.YtheaimlfngaaoaaDoor.Ht
set_option linter.unusedVariables false

theorem parts_long (s : L) (t a b : Int) (hl : 200 < s.length) (w : World) (hg : Gd w) :
    Calls Tryd.prog 6 #[S s, .int .u32 t, .int .u16 a, .int .u16 b] w fun e w' => e = .returned (.bool true) ∧ Below w.heap.size w w' := by
  have hz := size_S s
  have hlI : (200 : Int) < (s.length : Nat) := by omega
  have HG := Lib.hid hg
  clear hg
  go_enter Tryd.func6, Tryd.ntmps6
  go_wp2_with fail
  refine (lives08_any w HG.out).mono ?_
  rintro q w1 ⟨rfl, hb1⟩
  have H1 := Lib.hid hb1
  clear hb1
  go_wp2_with fail
  refine (lives08_any w1 (HG.out.old H1.out)).mono ?_
  rintro q w2 ⟨rfl, hb2⟩
  go_wp2_with fail
  go_ret
  exact ⟨rfl, H1.out.trans (hb2.mono H1.out.size)⟩
/-- Count of a short span -/
theorem Count_short {e : Ex} (he : ExOk e) {x y : Int} (h0 : 0 ≤ x) (h1 : x ≤ y) (h2 : y ≤ 5000000000) (h3 : y - x ≤ 4000) (w : World) (hd : Db w) :
    Calls Tryd.prog 15 #[exv e, .int .i64 x, .int .i64 y, .int .i64 10000] w fun r w' => r = .returned (.int .i64 (cnt e x y : Nat)) ∧ Below w.heap.size w w' := by
  have h := Count_any e he x y 10000 (by unfold Ca.I64; omega) (by unfold Ca.I64; omega) (by unfold Ca.I64; omega) w hd
  have e1 : ctd e x y 10000 = (cnt e x y : Nat) := by
    have hl := cnt_le e x y
    unfold ctd
    rw [lo_id (by omega), up_id (by omega), if_neg (by omega)]
    omega
  rw [e1] at h
  exact h
set_option maxRecDepth 20000 in
set_option maxHeartbeats 8000000 in
theorem parts_in (s : L) (t a b : Int) (h0 : 0 ≤ t) (h1 : t ≤ 4294967295) (ha : 0 ≤ a ∧ a ≤ 65535) (hb : 0 ≤ b ∧ b ≤ 65535) (hl : s.length ≤ 200) (w : World) (hg : Gd w) :
    Calls Tryd.prog 6 #[S s, .int .u32 t, .int .u16 a, .int .u16 b] w fun e w' => e = .returned (.bool true) ∧ Below w.heap.size w w' := by
  have hz := size_S s
  have hlI : ((s.length : Nat) : Int) ≤ 200 := by omega
  have hP := fun W hW => parse_any s W hW
  have hok := exOk_parse s
  obtain ⟨X, hX⟩ : ∃ x, x = parseV s := ⟨_, rfl⟩
  obtain ⟨e, he⟩ : ∃ x, x = parseE s := ⟨_, rfl⟩
  rw [← hX, ← he] at hP
  rw [← hX] at hok
  have HG := Lib.hid hg
  have HX := Lib.hid (And.intro hP hok)
  have hmix : Tryd.prog.follows .mixedOrders = true := by kernel_rfl
  clear hP hok hX he hg hl
  go_enter Tryd.func6, Tryd.ntmps6
  go_wp2_with fail
  refine (lives08_any w HG.out).mono ?_
  rintro q w1 ⟨rfl, hb1⟩
  have H1 := Lib.hid hb1
  clear hb1
  go_wp2_with fail
  refine (HX.out.1 w1 (HG.out.old H1.out).gl).mono ?_
  rintro q w2 ⟨rfl, hb⟩
  obtain ⟨V, hV⟩ : ∃ V, V = w2.alloc (.cells (exC X) 26) := ⟨_, rfl⟩
  obtain ⟨a1, a2, a3⟩ := cell_new w2 (exC X) 26
  rw [← hV] at a1 a2 a3
  have hbV := H1.out.trans ((hb.trans (a1.mono hb.size)).mono H1.out.size)
  have hdV : Db V := (HG.out.old hbV).db
  have H2 := Lib.hid (And.intro hV (And.intro hbV (And.intro a2 (And.intro a3 hdV))))
  clear hb hV hbV a1 a2 a3 hdV
  by_cases he0 : e = 0
  · subst he0
    go_wp2_with fail
    rw [← H2.out.1]
    -- REG
    obtain ⟨y, hy⟩ : ∃ y, y = t + a % 2000 := ⟨_, rfl⟩
    obtain ⟨z, hz⟩ : ∃ z, z = y + b % 2000 := ⟨_, rfl⟩
    rw [← hy, ← hz]
    have hyt : t ≤ y ∧ y ≤ t + 2000 ∧ y ≤ z ∧ z ≤ y + 2000 := by omega
    have hadd := cnt_add X (a := t) (b := y) (c := z) hyt.1 hyt.2.2.1
    have hc1 := cnt_le X t y
    have hc2 := cnt_le X y z
    have hK1 := fun W hW => Count_short HX.out.2 (x := t) (y := y) h0 hyt.1 (by omega) (by omega) W hW
    have hK2 := fun W hW => Count_short HX.out.2 (x := y) (y := z) (by omega) hyt.2.2.1 (by omega) (by omega) W hW
    have hK3 := fun W hW => Count_short HX.out.2 (x := t) (y := z) h0 (by omega) (by omega) (by omega) W hW
    rw [hadd] at hK3
    generalize cnt X t y = n1 at hK1 hK3 hc1
    generalize cnt X y z = n2 at hK2 hK3 hc2
    have hwr := IntWalk.i64_in ((n1 : Int) + (n2 : Int)) (by omega)
    have HK := Lib.hid (And.intro hK1 (And.intro hK2 hK3))
    clear hy hz hadd hK1 hK2 hK3
    have hlV : w2.heap.size < V.heap.size := (Array.getElem?_eq_some_iff.1 H2.out.2.2.1).1
    have HL := Lib.hid hlV
    clear hlV
    refine begin' 15 (fun Z => Below V.heap.size V Z) hmix (Below.refl V.heap.size V).drew (fun hS0 => ?_)
    refine Ht.takeN (i := 0) ⟨some 41, _, _, _, _, _⟩ (exv X) rfl (Nat.le_refl 15) (by kernel_rfl) (by kernel_rfl) (by kernel_rfl) (by kernel_rfl) hS0 (Or.inl ⟨by rfl, by (intro Z hZ; obtain ⟨⟨c0, c1, c2, c3, c4, c5, c6⟩, _⟩ := seven ((hZ.block _ HL.out).trans H2.out.2.2.1); go_simp)⟩) ?_
    simp only [Act.put, List.setIfInBounds_toArray, List.set_cons_zero, List.set_cons_succ]
    refine Ht.takeN (i := 1) ⟨some 42, _, _, _, _, _⟩ (.int .i64 t) rfl (Nat.le_refl 15) (by kernel_rfl) (by kernel_rfl) (by kernel_rfl) (by kernel_rfl) hS0 (Or.inl ⟨by rfl, by (intro X hX; go_simp)⟩) ?_
    simp only [Act.put, List.setIfInBounds_toArray, List.set_cons_zero, List.set_cons_succ]
    refine Ht.takeN (i := 2) ⟨some 43, _, _, _, _, _⟩ (.int .i64 y) rfl (Nat.le_refl 15) (by kernel_rfl) (by kernel_rfl) (by kernel_rfl) (by kernel_rfl) hS0 (Or.inl ⟨by rfl, by (intro X hX; go_simp)⟩) ?_
    simp only [Act.put, List.setIfInBounds_toArray, List.set_cons_zero, List.set_cons_succ]
    refine Ht.takeN (i := 4) ⟨some 45, _, _, _, _, _⟩ (exv X) rfl (Nat.le_refl 15) (by kernel_rfl) (by kernel_rfl) (by kernel_rfl) (by kernel_rfl) hS0 (Or.inl ⟨by rfl, by (intro Z hZ; obtain ⟨⟨c0, c1, c2, c3, c4, c5, c6⟩, _⟩ := seven ((hZ.block _ HL.out).trans H2.out.2.2.1); go_simp)⟩) ?_
    simp only [Act.put, List.setIfInBounds_toArray, List.set_cons_zero, List.set_cons_succ]
    refine Ht.takeN (i := 5) ⟨some 46, _, _, _, _, _⟩ (.int .i64 y) rfl (Nat.le_refl 15) (by kernel_rfl) (by kernel_rfl) (by kernel_rfl) (by kernel_rfl) hS0 (Or.inl ⟨by rfl, by (intro X hX; go_simp)⟩) ?_
    simp only [Act.put, List.setIfInBounds_toArray, List.set_cons_zero, List.set_cons_succ]
    refine Ht.takeN (i := 6) ⟨some 47, _, _, _, _, _⟩ (.int .i64 z) rfl (Nat.le_refl 15) (by kernel_rfl) (by kernel_rfl) (by kernel_rfl) (by kernel_rfl) hS0 (Or.inl ⟨by rfl, by (intro X hX; go_simp)⟩) ?_
    simp only [Act.put, List.setIfInBounds_toArray, List.set_cons_zero, List.set_cons_succ]
    refine Ht.takeN (i := 9) ⟨some 50, _, _, _, _, _⟩ (exv X) rfl (Nat.le_refl 15) (by kernel_rfl) (by kernel_rfl) (by kernel_rfl) (by kernel_rfl) hS0 (Or.inl ⟨by rfl, by (intro Z hZ; obtain ⟨⟨c0, c1, c2, c3, c4, c5, c6⟩, _⟩ := seven ((hZ.block _ HL.out).trans H2.out.2.2.1); go_simp)⟩) ?_
    simp only [Act.put, List.setIfInBounds_toArray, List.set_cons_zero, List.set_cons_succ]
    refine Ht.takeN (i := 10) ⟨some 51, _, _, _, _, _⟩ (.int .i64 t) rfl (Nat.le_refl 15) (by kernel_rfl) (by kernel_rfl) (by kernel_rfl) (by kernel_rfl) hS0 (Or.inl ⟨by rfl, by (intro X hX; go_simp)⟩) ?_
    simp only [Act.put, List.setIfInBounds_toArray, List.set_cons_zero, List.set_cons_succ]
    refine Ht.takeN (i := 11) ⟨some 52, _, _, _, _, _⟩ (.int .i64 z) rfl (Nat.le_refl 15) (by kernel_rfl) (by kernel_rfl) (by kernel_rfl) (by kernel_rfl) hS0 (Or.inl ⟨by rfl, by (intro X hX; go_simp)⟩) ?_
    simp only [Act.put, List.setIfInBounds_toArray, List.set_cons_zero, List.set_cons_succ]
    refine Ht.step (i := 3) ⟨some 44, _, _, _, _, _⟩ rfl (by kernel_rfl) (by rfl) (fun K hK => ?_)
    refine Ht.enter 15 #[exv X, .int .i64 t, .int .i64 y, .int .i64 10000] (by have hen := fun args w => enters_of (P := Tryd.prog) Tryd.func15 (by kernel_rfl) rfl args w; go_simp) (HK.out.1 _ (H2.out.2.2.2.2.old hS0)) ?_
    rintro e w3 ⟨rfl, hbl⟩
    have hS1 := hS0.trans (hbl.mono hS0.size)
    clear hbl
    refine ⟨_, rfl, hK _ _ (fun _ => hS1) (fun _ => ?_)⟩
    clear hK K
    simp only [Act.put, List.setIfInBounds_toArray, List.set_cons_zero, List.set_cons_succ]
    refine Ht.step (i := 7) ⟨some 48, _, _, _, _, _⟩ rfl (by kernel_rfl) (by rfl) (fun K hK => ?_)
    refine Ht.enter 15 #[exv X, .int .i64 y, .int .i64 z, .int .i64 10000] (by have hen := fun args w => enters_of (P := Tryd.prog) Tryd.func15 (by kernel_rfl) rfl args w; go_simp) (HK.out.2.1 _ (H2.out.2.2.2.2.old hS1)) ?_
    rintro e w4 ⟨rfl, hbl⟩
    have hS2 := hS1.trans (hbl.mono hS1.size)
    clear hbl
    refine ⟨_, rfl, hK _ _ (fun _ => hS2) (fun _ => ?_)⟩
    clear hK K
    simp only [Act.put, List.setIfInBounds_toArray, List.set_cons_zero, List.set_cons_succ]
    refine Ht.takeN (i := 8) ⟨some 49, _, _, _, _, _⟩ (.int .i64 ((n1 : Int) + (n2 : Int))) rfl (Nat.le_refl 15) (by kernel_rfl) (by kernel_rfl) (by kernel_rfl) (by kernel_rfl) hS2 (Or.inl ⟨by rfl, by (intro X hX; have := hwr; go_simp)⟩) ?_
    simp only [Act.put, List.setIfInBounds_toArray, List.set_cons_zero, List.set_cons_succ]
    refine Ht.step (i := 12) ⟨some 53, _, _, _, _, _⟩ rfl (by kernel_rfl) (by rfl) (fun K hK => ?_)
    refine Ht.enter 15 #[exv X, .int .i64 t, .int .i64 z, .int .i64 10000] (by have hen := fun args w => enters_of (P := Tryd.prog) Tryd.func15 (by kernel_rfl) rfl args w; go_simp) (HK.out.2.2 _ (H2.out.2.2.2.2.old hS2)) ?_
    rintro e w5 ⟨rfl, hbl⟩
    have hS3 := hS2.trans (hbl.mono hS2.size)
    clear hbl
    refine ⟨_, rfl, hK _ _ (fun _ => hS3) (fun _ => ?_)⟩
    clear hK K
    simp only [Act.put, List.setIfInBounds_toArray, List.set_cons_zero, List.set_cons_succ]
    refine Ht.takeN (i := 13) ⟨some 54, _, _, _, _, _⟩ (.bool true) rfl (Nat.le_refl 15) (by kernel_rfl) (by kernel_rfl) (by kernel_rfl) (by kernel_rfl) hS3 (Or.inl ⟨by rfl, by (intro Z hZ; go_simp)⟩) ?_
    simp only [Act.put, List.setIfInBounds_toArray, List.set_cons_zero, List.set_cons_succ]
    refine Ht.takeN (i := 14) ⟨some 8, _, _, _, _, _⟩ (.bool true) rfl (Nat.le_refl 15) (by kernel_rfl) (by kernel_rfl) (by kernel_rfl) (by kernel_rfl) hS3 (Or.inl ⟨by rfl, by (intro Z hZ; go_simp)⟩) ?_
    simp only [Act.put, List.setIfInBounds_toArray, List.set_cons_zero, List.set_cons_succ]
    refine done (by kernel_rfl) ?_
    have H4 := Lib.hid (H2.out.2.1.trans (hS3.mono H2.out.2.1.size))
    clear hS0 hS1 hS2 hS3
    go_wp2_with fail
    go_ret
    exact ⟨rfl, H4.out⟩
    -- END
  · have heI : ((e : Int) != 0) = true := by simp; omega
    go_wp2_with fail
    rw [← H2.out.1]
    go_ret
    exact ⟨rfl, H2.out.2.1⟩
theorem parts_law (s : ByteArray) (t a b : Int) (ht : (Lit.int .u32 t).wf = true) (ha : (Lit.int .u16 a).wf = true) (hb : (Lit.int .u16 b).wf = true) (w : World) (hg : Gd w) :
    Calls Tryd.prog 6 #[.string s, .int .u32 t, .int .u16 a, .int .u16 b] w fun e w' => e = .returned (.bool true) ∧ Below w.heap.size w w' := by
  have ht2 : 0 ≤ t ∧ t ≤ 4294967295 := by simpa [Lit.wf, IntKind.min, IntKind.max, IntKind.signed, IntKind.bits] using ht
  have ha2 : 0 ≤ a ∧ a ≤ 65535 := by simpa [Lit.wf, IntKind.min, IntKind.max, IntKind.signed, IntKind.bits] using ha
  have hb2 : 0 ≤ b ∧ b ≤ 65535 := by simpa [Lit.wf, IntKind.min, IntKind.max, IntKind.signed, IntKind.bits] using hb
  rw [show Value.string s = S s.data.toList by cases s; simp [S]]
  by_cases h : s.data.toList.length ≤ 200
  · exact parts_in _ t a b ht2.1 ht2.2 ha2 hb2 h w hg
  · exact parts_long _ t a b (by omega) w hg
end Go.Proofs.YtheaimlfngaaoaaDoor.Fi
