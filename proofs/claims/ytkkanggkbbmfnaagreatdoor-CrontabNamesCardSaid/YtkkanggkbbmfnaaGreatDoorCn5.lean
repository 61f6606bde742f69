
/- expressions: a field's walk -/
import Derived.Test.YtkkanggkbbmfnaaGreatDoorCn4
namespace Go.Proofs.YtkkanggkbbmfnaaGreatDoor.Cn
open Go.RowKit Go.Lib Go.Proofs.YtkkanggkbbmfnaaGreatDoor.Rg Go.Proofs.YtkkanggkbbmfnaaGreatDoor.Ht
attribute [local go_sem] Oper.semAt_some
set_option linter.unusedVariables false

set_option maxRecDepth 20000 in
set_option maxHeartbeats 4000000 in
theorem fparse_any (f : Fd) (hf : FOk f) (s : L) (w : World) (hs : s.length ≤ 1000) (hm : Mx w) :
    Calls Tryz.prog 40 #[fdv f, S s] w fun e w' => e = .returned (.tuple #[.int .u64 ((if errF f (sp 44 s) = 0 then mk (setF f (sp 44 s)) else 0 : Nat) : Int), .int .i64 (errF f (sp 44 s) : Nat)]) ∧ Below w.heap.size w w' := by
  obtain ⟨ps, hps⟩ : ∃ ps, ps = sp 44 s := ⟨_, rfl⟩
  rw [← hps]
  obtain ⟨R, hR⟩ : ∃ R : Nat, R = if errF f ps = 0 then mk (setF f ps) else 0 := ⟨_, rfl⟩
  rw [← hR]
  have HR := Lib.hid hR
  clear hR
  have hpl : ∀ p ∈ ps, p.length ≤ 1000 := fun p hp => by rw [hps] at hp; have := (sp_mem_len hp).1; omega
  obtain ⟨V, hV⟩ : ∃ V, V = (((w.alloc (.cells #[.int .i64 (f.lo : Nat), .int .i64 (f.hi : Nat), S f.nm] 77)).alloc (.cells #[.int .u64 0] 54)).alloc (.cells #[.int .i64 0] 27)).alloc (.cells #[.int .u64 0] 54) := ⟨_, rfl⟩
  have hbV : Below w.heap.size w V := by rw [hV]; exact ((((Below.refl _ _).alloc (Nat.le_refl _) _).alloc (by simp) _).alloc (by simp; omega) _).alloc (by simp; omega) _
  have hzV : V.heap.size = w.heap.size + 4 := by rw [hV]; simp
  have g0 : V.heap[w.heap.size]? = some (.cells #[.int .i64 (f.lo : Nat), .int .i64 (f.hi : Nat), S f.nm] 77 (0, 0)) := by
    rw [hV]; exact (Below.heap_alloc _ _ _ (by simp; omega)).trans ((Below.heap_alloc _ _ _ (by simp; omega)).trans (two_new w _ 77 #[.int .u64 0] 54).2.1)
  have g1 : V.heap[w.heap.size + 1]? = some (.cells #[.int .u64 0] 54 (0, 0)) := by
    rw [hV]; exact (Below.heap_alloc _ _ _ (by simp)).trans ((Below.heap_alloc _ _ _ (by simp)).trans (two_new w _ 77 #[.int .u64 0] 54).2.2.1)
  have g2 : V.heap[w.heap.size + 2]? = some (.cells #[.int .i64 0] 27 (0, 0)) := by
    have := (two_new ((w.alloc (.cells #[.int .i64 (f.lo : Nat), .int .i64 (f.hi : Nat), S f.nm] 77)).alloc (.cells #[.int .u64 0] 54)) #[.int .i64 0] 27 #[.int .u64 0] 54).2.1
    rw [hV]; simpa using this
  have g3 : V.heap[w.heap.size + 3]? = some (.cells #[.int .u64 0] 54 (0, 0)) := by
    have := (two_new ((w.alloc (.cells #[.int .i64 (f.lo : Nat), .int .i64 (f.hi : Nat), S f.nm] 77)).alloc (.cells #[.int .u64 0] 54)) #[.int .i64 0] 27 #[.int .u64 0] 54).2.2.1
    rw [hV]; simpa using this
  have HV := Lib.hid (And.intro hbV (And.intro g0 (And.intro g1 (And.intro g2 g3))))
  have HW := Lib.hid hV
  have HZ := Lib.hid hzV
  have HP := Lib.hid (And.intro hps hpl)
  have HM := Lib.hid hm
  have hmix : Tryz.prog.follows .mixedOrders = true := by kernel_rfl
  clear hbV g0 g1 g2 g3 hV hzV hps hpl hm
  refine (callsIn_wide (n := 3)).1 ?_
  refine callsIn_of_wp_marks Tryz.func40 rfl trivial ?_ rfl
  simp only [Tryz.ntmps40, List.size_toArray, List.length_cons, List.length_nil, Nat.reduceAdd, Nat.reduceSub, Array.replicate_succ, Array.replicate_zero, List.push_toArray, List.append_toArray, List.nil_append, List.cons_append]
  refine wpIn_wide.2 ?_
  go_wp2_with fail
  rw [← HW.out]
  refine (seq_any s 44 V).mono ?_
  rintro e w' ⟨rfl, hw'⟩
  have hz2 : w'.heap.size = w.heap.size + 7 := by rw [hw']; simp; rw [HZ.out]
  have hb2 : Below V.heap.size V w' := by rw [hw']; exact ((((Below.refl _ _).alloc (Nat.le_refl _) _).alloc (by simp) _).alloc (by simp; omega) _)
  have q0 : w'.heap[w.heap.size + 4]? = some (.cells #[S s] 9 (0, 0)) := by
    rw [hw', ← HZ.out]; exact (Below.heap_alloc _ _ _ (by simp; omega)).trans (two_new V _ 9 #[.string ⟨#[44]⟩] 9).2.1
  have q1 : w'.heap[w.heap.size + 4 + 1]? = some (.cells #[.string ⟨#[44]⟩] 9 (0, 0)) := by
    rw [hw', ← HZ.out]; exact (Below.heap_alloc _ _ _ (by simp)).trans (two_new V _ 9 #[.string ⟨#[44]⟩] 9).2.2.1
  have q2 : w'.heap[w.heap.size + 4 + 2]? = some (.cells #[.int .i64 0] 3 (0, 0)) := by
    have := (two_new (V.alloc (.cells #[S s] 9)) #[.string ⟨#[44]⟩] 9 #[.int .i64 0] 3).2.2.1
    rw [hw', ← HZ.out]; simpa using this
  have H2 := Lib.hid (And.intro hb2 (And.intro q0 (And.intro q1 q2)))
  have HZ2 := Lib.hid hz2
  clear hb2 q0 q1 q2 hw'
  go_wp2_with fail
  refine (wpIn_wide (n := 3)).1 ?_
  rw [HZ.out]
  have hfs : Fs w f ps w'.heap.size 0 w' := ⟨old_blk H2.out.1 HV.out.2.1, old_blk H2.out.1 HV.out.2.2.1, old_blk H2.out.1 HV.out.2.2.2.1, by
      rw [List.take_zero, show mk (setF f []) = 0 from mk_none (fun _ => rfl)]; exact old_blk H2.out.1 HV.out.2.2.2.2, by simp, HV.out.1.trans (H2.out.1.mono HV.out.1.size), Nat.le_refl _⟩
  refine range_own (own := fun k => k = w.heap.size + 4) rfl (by omega) (gf := 107) (lb := seqB (w.heap.size + 4)) rfl trivial (enters_of Tryz.func107 (by kernel_rfl) rfl)
    (seq_iter (3 - 1) w.heap.size (w.heap.size + 4) (w.heap.size + 4) s 44 w' hs (Nat.le_refl _) (by omega) H2.out.2.1 H2.out.2.2.1 H2.out.2.2.2) (fun k hk => by omega) (fun _ => rfl)
    (Fs w f ps w'.heap.size) (fun c _ => Fx w f ps w'.heap.size c) (fun m A A' h hc => h.calm hz2 hc) (fun c m A A' h hc => h.calm hz2 hc) (fun _ _ _ _ => rfl) hfs (fun m x A A' h _ => h) (fun m x A A' l r h _ _ => h) ?hround ?hdone ?hstop
  case hround =>
    rintro l m x X hlB ⟨rr, hlr⟩ hI hG
    dsimp only [encS]
    have hx : ps[m]? = some x := by rw [HP.out.1]; exact hG
    have hxl := HP.out.2 x (List.mem_of_getElem? hx)
    clear hG hI hfs
    gi_wp2_with fail
    refine ⟨Below.refl _ _, ?_⟩
    intro A2 hbut hI _
    obtain ⟨⟨c0, c1, c2⟩, _⟩ := three hI.fd
    have hmA : Mx A2 := by
      obtain ⟨M, hM⟩ := HM.out
      exact ⟨M, (hI.bel.cell (World.block_lt_of_cell? _ _ hM)).trans hM⟩
    have HI := Lib.hid hI
    have HX := Lib.hid (And.intro hx hmA)
    clear hI hbut hx hmA hlr
    gi_wp2_with fail
    have hrd := read_any f hf x A2 hxl HX.out.2
    have herr : errP f x = if (readT f x).2 then (if mayB f (readT f x).1 then 0 else 3) else 2 := rfl
    have hset := setF_snoc f ps m x HX.out.1
    generalize readT f x = q at hrd herr hset
    obtain ⟨⟨p0, p1, p2⟩, okq⟩ := q
    refine ⟨trivial, CallsIn.inRound l ((callsIn_wide.2 hrd).mono ?_)⟩
    rintro e A3 ⟨rfl, hb3⟩
    clear hrd c0 c1 c2
    obtain ⟨c0, c1, c2⟩ := (three (old_blk hb3 HI.out.fd)).1
    obtain ⟨k1, f1⟩ := one_cell (old_blk hb3 HI.out.r1)
    obtain ⟨k2, f2⟩ := one_cell (old_blk hb3 HI.out.r2)
    have l0 : w.heap.size < A3.heap.size := by have := HI.out.size; have := hb3.size; have := HZ2.out; omega
    have l1 : w.heap.size + 1 < A3.heap.size := by have := HI.out.size; have := hb3.size; have := HZ2.out; omega
    have l2 : w.heap.size + 1 + 1 < A3.heap.size := by have := HI.out.size; have := hb3.size; have := HZ2.out; omega
    have H3 := Lib.hid (And.intro hb3 (And.intro herr hset))
    clear hb3 herr hset
    cases okq
    · gi_wp2_with fail
      have e1 := one_set (old_blk H3.out.1 HI.out.r1) (.int .u64 0)
      have e2 := one_set (w := A3.setCell ⟨w.heap.size + 1, 0, none⟩ (.int .u64 0)) (b := w.heap.size + 2) ((heap_setCell_other _ _ _ _ (by simp)).trans (old_blk H3.out.1 HI.out.r2)) (.int .i64 2)
      refine refuse HI.out HZ2.out HX.out.1 (e := 2) (H3.out.2.1.trans rfl) (by decide) ?_ ?_ ?_
      · exact BelowO.alloc (BelowO.set (p := ⟨w.heap.size + 2, 0, none⟩) (BelowO.set (p := ⟨w.heap.size + 1, 0, none⟩) (BelowO.of H3.out.1) (.inl rfl) _) (.inr rfl) _) _
      · exact (Below.heap_alloc _ _ _ (by simp; omega)).trans ((heap_setCell_other _ _ _ _ (by simp)).trans e1)
      · exact (Below.heap_alloc _ _ _ (by simp; omega)).trans e2
    · have hmy := may_any f (p0, p1, p2)
      generalize hmb : mayB f (p0, p1, p2) = mb at hmy
      gi_wp2_with fail
      obtain ⟨Y, hY⟩ : ∃ Y, Y = A3.alloc (.cells #[.int .i64 (p0 : Nat), .int .i64 (p1 : Nat), .int .i64 (p2 : Nat)] 104) := ⟨_, rfl⟩
      have hbY : Below A2.heap.size A2 Y := by rw [hY]; exact H3.out.1.alloc H3.out.1.size _
      have hgY : Y.heap[A3.heap.size]? = some (.cells #[.int .i64 (p0 : Nat), .int .i64 (p1 : Nat), .int .i64 (p2 : Nat)] 104 (0, 0)) := by rw [hY]; exact heap_alloc_new A3 _
      have hzY : A3.heap.size < Y.heap.size := by rw [hY]; simp
      rw [← hY]
      refine ⟨trivial, CallsIn.inRound l ((callsIn_wide.2 (hmy _)).mono ?_)⟩
      rintro e A4 ⟨rfl, hb4⟩
      have hb4' := hbY.trans (hb4.mono hbY.size)
      have hgp := old_blk hb4 hgY
      clear c0 c1 c2 k1 k2 f1 f2 hmy hbY hgY hY
      obtain ⟨k1, f1⟩ := one_cell (old_blk hb4' HI.out.r1)
      obtain ⟨k2, f2⟩ := one_cell (old_blk hb4' HI.out.r2)
      have H4 := Lib.hid (And.intro hb4' (And.intro hgp hmb))
      clear hb4 hb4' hgp hmb
      cases mb
      · gi_wp2_with fail
        have e1 := one_set (old_blk H4.out.1 HI.out.r1) (.int .u64 0)
        have e2 := one_set (w := A4.setCell ⟨w.heap.size + 1, 0, none⟩ (.int .u64 0)) (b := w.heap.size + 2) ((heap_setCell_other _ _ _ _ (by simp)).trans (old_blk H4.out.1 HI.out.r2)) (.int .i64 3)
        refine refuse HI.out HZ2.out HX.out.1 (H3.out.2.1.trans (by rw [H4.out.2.2]; try rfl)) (by decide) ?_ ?_ ?_
        · exact BelowO.set (p := ⟨w.heap.size + 2, 0, none⟩) (BelowO.set (p := ⟨w.heap.size + 1, 0, none⟩) (BelowO.of H4.out.1) (.inl rfl) _) (.inr rfl) _
        · exact (heap_setCell_other _ _ _ _ (by simp)).trans e1
        · exact e2
      · gi_wp2_with fail
        have hall := (one_cell (old_blk H4.out.1 HI.out.all)).1
        have hallf := (one_cell (old_blk H4.out.1 HI.out.all)).2
        obtain ⟨⟨y0, y1, y2⟩, _⟩ := three H4.out.2.1
        have hpa : A3.heap.size < A4.heap.size := (Array.getElem?_eq_some_iff.1 H4.out.2.1).1
        have hpw : w.heap.size + 3 < A4.heap.size := (Array.getElem?_eq_some_iff.1 (old_blk H4.out.1 HI.out.all)).1
        have hmay : p0 ≤ p1 ∧ p1 ≤ f.hi ∧ 1 ≤ p2 ∧ p2 ≤ 60 := by
          have := H4.out.2.2
          simp [mayB] at this
          omega
        have hval := fun W => values_any (p0, p1, p2) (by have := hf.hi; show p0 ≤ 99; omega) (by have := hf.hi; show p1 ≤ 59; omega) hmay.2.2.1 hmay.2.2.2 W
        have hor := u64_or_nat (mk (setF f (ps.take m))) (mk (inP (p0, p1, p2))) (mk_lt _) (mk_lt _)
        rw [mk_or, show (fun y => setF f (ps.take m) y || inP (p0, p1, p2) y) = setF f (ps.take (m + 1)) from funext fun y => (H3.out.2.2 y).symm] at hor
        obtain ⟨M, hM⟩ : ∃ M, M = mk (setF f (ps.take m)) := ⟨_, rfl⟩
        obtain ⟨U, hU⟩ : ∃ U, U = mk (inP (p0, p1, p2)) := ⟨_, rfl⟩
        rw [← hM, ← hU] at hor
        simp only [← hU] at hval
        rw [← hM] at hall
        have HU := Lib.hid (And.intro hval hor)
        have HG := Lib.hid (And.intro hall (And.intro y0 (And.intro y1 (And.intro y2 (And.intro hpa hpw)))))
        clear hval hor hM hU hall y0 y1 y2 hpa
        refine begin_round 4 (fun X => Below A4.heap.size A4 X) hmix (by kernel_rfl) (Below.refl A4.heap.size A4).drew (fun hS0 => ?_)
        refine Ht.take (i := 0) ⟨some 25, _, _, _, _, _⟩ (.int .u64 (M : Nat)) rfl (by kernel_rfl) (by kernel_rfl) (by decide) (by kernel_rfl) (by kernel_rfl) (by kernel_rfl) hS0 (Or.inl ⟨by rfl, by (intro X hX; have h1 := (hX.cell (p := ⟨w.heap.size + 1 + 1 + 1, 0, none⟩) HG.out.2.2.2.2.2).trans HG.out.1; go_simp)⟩) ?_
        simp only [Act.put, List.setIfInBounds_toArray, List.set_cons_zero, List.set_cons_succ]
        refine Ht.take (i := 1) ⟨some 26, _, _, _, _, _⟩ (.agg #[.int .i64 (p0 : Nat), .int .i64 (p1 : Nat), .int .i64 (p2 : Nat)]) rfl (by kernel_rfl) (by kernel_rfl) (by decide) (by kernel_rfl) (by kernel_rfl) (by kernel_rfl) hS0 (Or.inl ⟨by rfl, by (intro X hX; have h1 := (hX.cell (p := ⟨A3.heap.size, 0, none⟩) HG.out.2.2.2.2.1).trans HG.out.2.1; have h2 := (hX.cell (p := ⟨A3.heap.size, 1, none⟩) HG.out.2.2.2.2.1).trans HG.out.2.2.1; have h3 := (hX.cell (p := ⟨A3.heap.size, 2, none⟩) HG.out.2.2.2.2.1).trans HG.out.2.2.2.1; go_simp)⟩) ?_
        simp only [Act.put, List.setIfInBounds_toArray, List.set_cons_zero, List.set_cons_succ]
        refine Ht.step (i := 2) ⟨some 27, _, _, _, _, _⟩ rfl (by kernel_rfl) (by rfl) (fun K hK => ?_)
        refine Ht.enter 65 #[ptv (p0, p1, p2)] (by have hen := fun args w => enters_of (P := Tryz.prog) Tryz.func65 (by kernel_rfl) rfl args w; go_simp) (HU.out.1 _) ?_
        rintro e A5 ⟨rfl, hb5⟩
        have hS1 : Below A4.heap.size A4 A5 := hS0.trans (hb5.mono hS0.size)
        clear hb5
        refine ⟨_, rfl, hK _ _ (fun _ => hS1) (fun _ => ?_)⟩
        clear hK K
        simp only [Act.put, List.setIfInBounds_toArray, List.set_cons_zero, List.set_cons_succ]
        refine Ht.take (i := 3) ⟨some 28, _, _, _, _, _⟩ (.int .u64 (mk (setF f (ps.take (m + 1))) : Nat)) rfl (by kernel_rfl) (by kernel_rfl) (by decide) (by kernel_rfl) (by kernel_rfl) (by kernel_rfl) hS1 (Or.inl ⟨by rfl, by (intro X hX; have h1 := HU.out.2; go_simp)⟩) ?_
        simp only [Act.put, List.setIfInBounds_toArray, List.set_cons_zero, List.set_cons_succ]
        refine Ht.step (i := 4) ⟨none, _, _, _, _, _⟩ rfl (by kernel_rfl) (by rfl) (fun K hK => ?_)
        have c3 := (hS1.cell (p := ⟨w.heap.size + 1 + 1 + 1, 0, none⟩) HG.out.2.2.2.2.2).trans HG.out.1
        have f3 := (hS1.frozen (p := ⟨w.heap.size + 1 + 1 + 1, 0, none⟩) HG.out.2.2.2.2.2).trans hallf
        have hg3 : A5.heap[w.heap.size + 3]? = some (.cells #[.int .u64 (mk (setF f (ps.take m)) : Nat)] 54 (0, 0)) := old_blk hS1 (old_blk H4.out.1 HI.out.all)
        have H5 := Lib.hid (And.intro hS1 hg3)
        clear hg3 hallf
        go_simp
        refine hK _ _ (fun h => absurd rfl h) (fun _ => ?_)
        clear hK K
        refine done (by kernel_rfl) ?_
        exact accept HI.out HZ2.out HX.out.1 (H3.out.2.1.trans (by rw [H4.out.2.2]; rfl)) (BelowO.set (own := fun k => k = w.heap.size + 3) (p := ⟨w.heap.size + 3, 0, none⟩) (BelowO.of (H4.out.1.trans (H5.out.1.mono H4.out.1.size))) rfl _) (one_set H5.out.2 _)
  case hdone =>
    intro D m2 X hD hS hI hK
    dsimp only
    have hall := (one_cell hI.all).1
    obtain ⟨k1, f1⟩ := one_cell hI.r1
    obtain ⟨k2, f2⟩ := one_cell hI.r2
    have htk : ps.take m2 = ps := by rw [hS, ← HP.out.1]; exact List.take_length
    have hI2 := hI
    have hok : errF f ps = 0 := errF_ok (by have := hI.ok; rwa [htk] at this)
    rw [htk] at hall
    have HX := Lib.hid (And.intro hI2 (And.intro hok (And.intro hK hD)))
    clear hI hI2 hok hK hD hS htk
    go_wp2_with fail
    have e1 := one_set HX.out.1.r1 (.int .u64 (mk (setF f ps) : Nat))
    have e2 := one_set (w := X.setCell ⟨w.heap.size + 1, 0, none⟩ (.int .u64 (mk (setF f ps) : Nat))) (b := w.heap.size + 2) ((heap_setCell_other _ _ _ _ (by simp)).trans HX.out.1.r2) (.int .i64 0)
    have hRe : R = mk (setF f ps) := by rw [HR.out, if_pos HX.out.2.1]
    refine leaveC2 (v1 := .int .u64 (mk (setF f ps) : Nat)) (v2 := .int .i64 0) rfl rfl rfl ((heap_setCell_other _ _ _ _ (by simp)).trans e1) e2 (show w.heap.size ≤ D by have := HX.out.2.2.2; omega) ?_ fun X' hb => ⟨by rw [hRe, HX.out.2.1]; rfl, ?_⟩
    · have hne : D ≠ w.heap.size + 1 ∧ D ≠ w.heap.size + 2 := by have := HX.out.2.2.2; omega
      exact (heap_setCell_other _ _ _ _ hne.2).trans ((heap_setCell_other _ _ _ _ hne.1).trans HX.out.2.2.1)
    · have hb0 := (HX.out.1.bel.setCell (p := ⟨w.heap.size + 1, 0, none⟩) (Nat.le_succ _) (.int .u64 (mk (setF f ps) : Nat))).setCell (p := ⟨w.heap.size + 2, 0, none⟩) (Nat.le_add_right _ _) (.int .i64 0)
      exact hb0.trans (hb.below (Nat.le_refl _) hb0.size)
  case hstop =>
    rintro D c m X hD h hK
    obtain ⟨rfl, h1, h2, h3, h4, h5⟩ := h
    have hRe : R = 0 := by rw [HR.out, if_neg h1]
    have HH := Lib.hid (And.intro h2 (And.intro h3 (And.intro hD (And.intro hK (And.intro h4 hRe)))))
    clear h1 h2 h3 h4 h5 hD hK hRe
    gi_wp2_with fail
    exact leaveC2 rfl rfl rfl HH.out.1 HH.out.2.1 (Nat.le_trans (m := w'.heap.size) (by omega) HH.out.2.2.1) HH.out.2.2.2.1 fun X' hb => ⟨by rw [HH.out.2.2.2.2.2]; rfl, HH.out.2.2.2.2.1.trans (hb.below (Nat.le_refl _) HH.out.2.2.2.2.1.size)⟩
end Go.Proofs.YtkkanggkbbmfnaaGreatDoor.Cn
