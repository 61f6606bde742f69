
/- fires: the days that are named, one by one: the walk -/
import Derived.Test.YtkkanggkbbmfnaaGreatDoorFi5
namespace Go.Proofs.YtkkanggkbbmfnaaGreatDoor.Fi
open Go.RowKit Go.Lib Go.Proofs.YtkkanggkbbmfnaaGreatDoor.Cn Go.Proofs.YtkkanggkbbmfnaaGreatDoor.Rg Go.Proofs.YtkkanggkbbmfnaaGreatDoor.Ht
attribute [local go_sem] Oper.semAt_some
set_option linter.unusedVariables false

set_option maxRecDepth 20000 in
set_option maxHeartbeats 8000000 in
theorem days_iter (n b : Nat) (e : Ex) (he : ExOk e) (fr tO : Int) (hfr : 0 ≤ fr ∧ fr ≤ tO) (hto : tO ≤ 1099511627776) (w : World) (ht : DB b e fr tO w) :
    SeqI Fence.wide n Tryz.prog 66 (dayBx b) (tbox b) (fr - fr % 1440 - 1) (DG e tO) (DS e tO) w := by
  intro own l J K W hW hown hJ hK hY hJ0
  have hmix : Tryz.prog.follows .mixedOrders = true := by kernel_rfl
  have hHm : bits .and .u64 ((e.b : Nat) : Int) 16777215 = ((hM e : Nat) : Int) := u64_and_nat _ 16777215 he.b (by decide)
  have hMm : bits .and .u64 ((e.a : Nat) : Int) 1152921504606846975 = ((mM e : Nat) : Int) := u64_and_nat _ 1152921504606846975 he.a (by decide)
  have HY := Lib.hid (And.intro hJ (And.intro hY hown))
  have HJ0 := Lib.hid hJ0
  have htW := ht.old hW
  have HW := Lib.hid (And.intro hW htW)
  have hof := Ca.Of_in fr W hfr.1 (by omega)
  obtain ⟨k1, _⟩ := one_cell htW.f
  clear hJ hK hY hJ0 hW ht hown htW
  refine callsIn_of_wp Tryz.func66 rfl trivial ?_ rfl
  simp only [Tryz.ntmps66, List.size_toArray, List.length_cons, List.length_nil, Nat.reduceAdd, Nat.reduceSub, Array.replicate_succ, Array.replicate_zero, List.push_toArray, List.append_toArray, List.nil_append, List.cons_append]
  gi_wp2_with fail
  refine ⟨trivial, (fun h => by cases h), (callsIn_wide.2 hof).mono ?_⟩
  rintro q w1 ⟨y, mo, d, wd, h, mi, rfl, him, hb1⟩
  have hM := isM_day him
  obtain ⟨V, hV⟩ : ∃ V, V = w1.alloc (.cells (Ca.momC y mo d wd h mi) 111) := ⟨_, rfl⟩
  obtain ⟨a1, a2, a3⟩ := cell_new w1 (Ca.momC y mo d wd h mi) 111
  rw [← hV] at a1 a2 a3
  have hbV := hb1.trans (a1.mono hb1.size)
  have htV := HW.out.2.old hbV
  have hjV := HY.out.1 _ _ _ HJ0.out hbV
  have hz1 := hb1.size
  have HV := Lib.hid (And.intro hV (And.intro hbV (And.intro htV (And.intro hjV (And.intro a2 a3)))))
  have HM := Lib.hid hM
  clear hV hbV htV hjV a1 a2 a3 him hb1 hof hM k1
  gi_wp2_with fail
  rw [← HV.out.1]
  -- REG
  have hne : b + 2 < w1.heap.size := by have := HW.out.2.lt; omega
  have hng : 5 < w1.heap.size := by have := HW.out.2.d.lt; omega
  have HL := Lib.hid (show b < V.heap.size ∧ ¬ b = w1.heap.size ∧ ¬ 5 = w1.heap.size from ⟨by have := HV.out.2.2.1.lt; omega, by omega, by omega⟩)
  refine wpIn_wide.2 ?_
  refine begin' 12 (fun X => BelowO (fun k => k = w1.heap.size) V X) hmix (BelowO.of (Below.refl V.heap.size V).drew) (fun hS0 => ?_)
  refine Ht.takeN (i := 0) ⟨some 15, _, _, _, _, _⟩ (.pointer (some ⟨b, 1, none⟩)) rfl (Nat.le_refl 12) (by kernel_rfl) (by kernel_rfl) (by kernel_rfl) (by kernel_rfl) hS0 (Or.inl ⟨by rfl, by (intro X hX; go_simp)⟩) ?_
  simp only [Act.put, List.setIfInBounds_toArray, List.set_cons_zero, List.set_cons_succ]
  refine Ht.takeN (i := 1) ⟨some 16, _, _, _, _, _⟩ (u e.b) rfl (Nat.le_refl 12) (by kernel_rfl) (by kernel_rfl) (by kernel_rfl) (by kernel_rfl) hS0 (Or.inl ⟨by rfl, by (intro X hX; obtain ⟨⟨c0, c1, c2, c3, c4, c5, c6⟩, _⟩ := seven ((hX.block b HL.out.1 HL.out.2.1).trans HV.out.2.2.1.e); go_simp)⟩) ?_
  simp only [Act.put, List.setIfInBounds_toArray, List.set_cons_zero, List.set_cons_succ]
  refine Ht.takeN (i := 2) ⟨some 17, _, _, _, _, _⟩ (u (hM e)) rfl (Nat.le_refl 12) (by kernel_rfl) (by kernel_rfl) (by kernel_rfl) (by kernel_rfl) hS0 (Or.inl ⟨by rfl, by (intro X hX; have := hHm; go_simp)⟩) ?_
  simp only [Act.put, List.setIfInBounds_toArray, List.set_cons_zero, List.set_cons_succ]
  refine Ht.takeN (i := 4) ⟨some 19, _, _, _, _, _⟩ (.pointer (some ⟨b, 0, none⟩)) rfl (Nat.le_refl 12) (by kernel_rfl) (by kernel_rfl) (by kernel_rfl) (by kernel_rfl) hS0 (Or.inl ⟨by rfl, by (intro X hX; go_simp)⟩) ?_
  simp only [Act.put, List.setIfInBounds_toArray, List.set_cons_zero, List.set_cons_succ]
  refine Ht.takeN (i := 5) ⟨some 20, _, _, _, _, _⟩ (u e.a) rfl (Nat.le_refl 12) (by kernel_rfl) (by kernel_rfl) (by kernel_rfl) (by kernel_rfl) hS0 (Or.inl ⟨by rfl, by (intro X hX; obtain ⟨⟨c0, c1, c2, c3, c4, c5, c6⟩, _⟩ := seven ((hX.block b HL.out.1 HL.out.2.1).trans HV.out.2.2.1.e); go_simp)⟩) ?_
  simp only [Act.put, List.setIfInBounds_toArray, List.set_cons_zero, List.set_cons_succ]
  refine Ht.takeN (i := 6) ⟨some 21, _, _, _, _, _⟩ (u (mM e)) rfl (Nat.le_refl 12) (by kernel_rfl) (by kernel_rfl) (by kernel_rfl) (by kernel_rfl) hS0 (Or.inl ⟨by rfl, by (intro X hX; have := hMm; go_simp)⟩) ?_
  simp only [Act.put, List.setIfInBounds_toArray, List.set_cons_zero, List.set_cons_succ]
  refine Ht.step (i := 3) ⟨some 18, _, _, _, _, _⟩ rfl (by kernel_rfl) (by rfl) (fun K hK => ?_)
  refine Ht.enter 68 #[u (hM e)] (by have hen := fun args w => enters_of (P := Tryz.prog) Tryz.func68 (by kernel_rfl) rfl args w; go_simp) (least_any _ (hM_lt e) _ (HV.out.2.2.1.d.keep (hS0.block _ HV.out.2.2.1.d.lt HL.out.2.2))) ?_
  rintro e w2 ⟨rfl, rfl⟩
  refine ⟨_, rfl, hK _ _ (fun _ => hS0) (fun _ => ?_)⟩
  clear hK K
  simp only [Act.put, List.setIfInBounds_toArray, List.set_cons_zero, List.set_cons_succ]
  refine Ht.takeN (i := 8) ⟨some 23, _, _, _, _, _⟩ (.pointer (some ⟨w1.heap.size, 4, none⟩)) rfl (Nat.le_refl 12) (by kernel_rfl) (by kernel_rfl) (by kernel_rfl) (by kernel_rfl) hS0 (Or.inl ⟨by rfl, by (intro X hX; go_simp)⟩) ?_
  simp only [Act.put, List.setIfInBounds_toArray, List.set_cons_zero, List.set_cons_succ]
  refine Ht.step (i := 7) ⟨some 22, _, _, _, _, _⟩ rfl (by kernel_rfl) (by rfl) (fun K hK => ?_)
  refine Ht.enter 68 #[u (mM e)] (by have hen := fun args w => enters_of (P := Tryz.prog) Tryz.func68 (by kernel_rfl) rfl args w; go_simp) (least_any _ (mM_lt e) _ (HV.out.2.2.1.d.keep (hS0.block _ HV.out.2.2.1.d.lt HL.out.2.2))) ?_
  rintro e w3 ⟨rfl, rfl⟩
  refine ⟨_, rfl, hK _ _ (fun _ => hS0) (fun _ => ?_)⟩
  clear hK K
  simp only [Act.put, List.setIfInBounds_toArray, List.set_cons_zero, List.set_cons_succ]
  have hg1o : (V.drew).heap[w1.heap.size]? = some (.cells (Ca.momC y mo d wd h mi) 111 (0, 0)) := HV.out.2.2.2.2.1
  obtain ⟨⟨m0, m1, m2, m3, m4, m5⟩, fz⟩ := Ca.mom_cells hg1o
  have fk := fz 4
  have hg1 := heap_setCell_same _ _ 4 _ _ (.int .i64 (lst (hM e) : Nat)) hg1o
  have hS1 := hS0.set (p := ⟨w1.heap.size, 4, none⟩) rfl (.int .i64 (lst (hM e) : Nat))
  clear hg1o fz
  refine Ht.step (i := 9) ⟨none, _, _, _, _, _⟩ rfl (by kernel_rfl) (by rfl) (fun K hK => ?_)
  go_simp
  refine hK _ ((V.drew).setCell ⟨w1.heap.size, 4, none⟩ (.int .i64 (lst (hM e) : Nat))) (fun _ => hS1) (fun _ => ?_)
  clear hK K fk m0 m1 m2 m3 m4 m5
  try simp only [Act.put, List.setIfInBounds_toArray, List.set_cons_zero, List.set_cons_succ]
  obtain ⟨X9, hX9⟩ : ∃ X, X = (V.drew).setCell ⟨w1.heap.size, 4, none⟩ (.int .i64 (lst (hM e) : Nat)) := ⟨_, rfl⟩
  rw [← hX9] at hg1 hS1 ⊢
  clear hX9
  refine Ht.takeN (i := 10) ⟨some 24, _, _, _, _, _⟩ (.pointer (some ⟨w1.heap.size, 5, none⟩)) rfl (Nat.le_refl 12) (by kernel_rfl) (by kernel_rfl) (by kernel_rfl) (by kernel_rfl) hS1 (Or.inl ⟨by rfl, by (intro X hX; go_simp)⟩) ?_
  simp only [Act.put, List.setIfInBounds_toArray, List.set_cons_zero, List.set_cons_succ]
  have hg2o : (X9).heap[w1.heap.size]? = some (.cells (Ca.momC y mo d wd (lst (hM e) : Nat) mi) 111 (0, 0)) := hg1
  obtain ⟨⟨m0, m1, m2, m3, m4, m5⟩, fz⟩ := Ca.mom_cells hg2o
  have fk := fz 5
  have hg2 := heap_setCell_same _ _ 5 _ _ (.int .i64 (lst (mM e) : Nat)) hg2o
  have hS2 := hS1.set (p := ⟨w1.heap.size, 5, none⟩) rfl (.int .i64 (lst (mM e) : Nat))
  clear hg2o fz
  refine Ht.step (i := 11) ⟨none, _, _, _, _, _⟩ rfl (by kernel_rfl) (by rfl) (fun K hK => ?_)
  go_simp
  refine hK _ ((X9).setCell ⟨w1.heap.size, 5, none⟩ (.int .i64 (lst (mM e) : Nat))) (fun _ => hS2) (fun _ => ?_)
  clear hK K fk m0 m1 m2 m3 m4 m5
  try simp only [Act.put, List.setIfInBounds_toArray, List.set_cons_zero, List.set_cons_succ]
  obtain ⟨X11, hX11⟩ : ∃ X, X = (X9).setCell ⟨w1.heap.size, 5, none⟩ (.int .i64 (lst (mM e) : Nat)) := ⟨_, rfl⟩
  rw [← hX11] at hg2 hS2 ⊢
  clear hX11
  refine done (by kernel_rfl) ?_
  have htX : DB b e fr tO X11 := HV.out.2.2.1.keep hS2 (fun k hk ht => by subst hk; rcases ht with h | h | h | h <;> omega)
  have hjX : J (fr - fr % 1440 - 1) X11 := HY.out.1 _ _ _ HV.out.2.2.2.1 (hS2.below (by have := HV.out.2.1.size; omega) (fun k hk => by omega))
  have hzX : W.heap.size ≤ X11.heap.size := Nat.le_trans HV.out.2.1.size hS2.size
  have hmX : X11.heap[w1.heap.size]? = some (.cells (Ca.momC y mo d wd (lst (hM e) : Nat) (lst (mM e) : Nat)) 111 (0, 0)) := hg2
  have hst : DL W w1.heap.size b e fr tO J (fr - fr % 1440) 0 (fr - fr % 1440 - 1) X11 := ⟨⟨y, mo, d, wd, HM.out, hmX⟩, hjX, htX, hzX, Dp.start (by omega), by omega, by omega⟩
  obtain ⟨k1, _⟩ := one_cell htX.f
  have HS := Lib.hid hst
  have HB := Lib.hid (show W.heap.size ≤ w1.heap.size ∧ b + 2 < w1.heap.size ∧ 5 < w1.heap.size from ⟨hz1, hne, hng⟩)
  obtain ⟨mB, hmB⟩ : ∃ mB, mB = w1.heap.size := ⟨_, rfl⟩
  rw [← hmB] at HS HB ⊢
  clear hS0 hS1 hS2 hg1 hg2 htX hjX hzX hmX hst HL HV HM hz1 hne hng hmB
  gi_wp2_with fail
  clear k1
  gi_loopw [7, 8] (fun f c wr => ∃ F bb x : Int, f = .int .i64 F ∧ c = .int .i64 bb ∧ DL W mB b e fr tO J F bb x wr) (fun f _ _ => (tO - RowKit.intOf f + 1).toNat)
  case atStart => exact ⟨_, 0, _, rfl, rfl, HS.out⟩
  case round =>
    obtain ⟨F, bb, x, rfl, rfl, hdl⟩ := hrel
    have hdb := hdl.db
    have hF := hdl.hF
    have hb0 := hdl.p.b0
    have hb9 := hdl.hb
    obtain ⟨kt, _⟩ := one_cell hdb.t
    have hFb := hdl.p.pos
    have HD := Lib.hid hdl
    clear hdl
    by_cases hend : bb < 146097
    case neg =>
      have hds := HD.out.p.end1 (tO := tO) (by omega)
      have HE := Lib.hid (And.intro hds HD.out.j)
      clear hds
      gi_wp2_with fail
      go_end0
      exact ⟨⟨_, rfl⟩, .inl ⟨x, HE.out.1, HE.out.2⟩⟩
    by_cases hFt : F ≤ tO
    case neg =>
      have hFt' : tO < F := by omega
      have hds := HD.out.p.end2 (tO := tO) hFt'
      have HE := Lib.hid (And.intro hds HD.out.j)
      clear hds
      gi_wp2_with fail
      go_end0
      exact ⟨⟨_, rfl⟩, .inl ⟨x, HE.out.1, HE.out.2⟩⟩
    obtain ⟨y1, mo1, d1, wd1, im, hm⟩ := HD.out.m
    have hy1 := year_le im (by omega)
    have hy0 := im.y0
    obtain ⟨n1, n2, n3⟩ := stp_in (e := e) im
    have hF0 : F % 1440 = 0 := by have := im.h; have := im.mi; omega
    have hsp := fun W => step_any e he y1 mo1 d1 wd1 (lst (hM e) : Nat) (lst (mM e) : Nat) (by unfold Ca.I64; omega) im.m1 im.m2 im.d1 (by have := im.d2; have := Ca.dm_le y1 mo1; omega) W
    have hl1 := lst_le (hM_lt e)
    have hl2 := lst_le (mM_lt e)
    have hnm := fun W => names_any e he y1 mo1 d1 wd1 (lst (hM e) : Nat) (lst (mM e) : Nat) (isM_in im).1 (isM_in im).2.1 (isM_in im).2.2.1 (by unfold Ca.I64; omega) (by unfold Ca.I64; omega) W
    have hnl := names_least he mo1 d1 wd1
    have hone := stp_one (e := e) (y := y1) (mo := mo1) (d := d1) (wd := wd1)
    have hno := stp_no (e := e) im
    have hdn := dn_of (e := e) im
    generalize stp e y1 mo1 d1 = st at hsp n1 n2 n3 hone hno
    generalize namesB e mo1 d1 wd1 (lst (hM e) : Nat) (lst (mM e) : Nat) = nb at hnm hnl
    have HH := Lib.hid (show lst (hM e) ≤ 64 ∧ lst (mM e) ≤ 64 from ⟨hl1, hl2⟩)
    have HI := Lib.hid (And.intro hsp (And.intro hnm (And.intro hnl (And.intro hone (And.intro hno (And.intro hdn (And.intro n3 hy1)))))))
    have HM := Lib.hid (And.intro im hm)
    obtain ⟨⟨c0, c1, c2, c3, c4, c5, c6⟩, _⟩ := seven hdb.e
    obtain ⟨⟨m0, m1, m2, m3, m4, m5⟩, _⟩ := Ca.mom_cells hm
    clear hsp hnm hnl hone hno hdn n3 im hm hl1 hl2 hy0 hy1 hdb
    gi_wp2_with fail
    refine ⟨trivial, (fun h => by cases h), (callsIn_wide.2 (HI.out.1 _)).mono ?_⟩
    rintro q w2 ⟨rfl, hb2⟩
    have hdb2 := HD.out.db.old hb2
    have hm2 := old_blk hb2 HM.out.2
    have hz2 := Nat.le_trans HD.out.z hb2.size
    have hj2 := HY.out.1 _ _ _ HD.out.j (hb2.mono HD.out.z)
    have H2 := Lib.hid (And.intro hdb2 (And.intro hm2 (And.intro hz2 hj2)))
    clear c0 c1 c2 c3 c4 c5 c6 m0 m1 m2 m3 m4 m5 kt hb2 hz2 hj2
    obtain ⟨⟨c0, c1, c2, c3, c4, c5, c6⟩, _⟩ := seven hdb2.e
    obtain ⟨⟨m0, m1, m2, m3, m4, m5⟩, _⟩ := Ca.mom_cells hm2
    clear hdb2 hm2
    gi_wp2_with fail
    refine ⟨trivial, (fun h => by cases h), (callsIn_wide.2 (HI.out.2.1 _)).mono ?_⟩
    rintro q w3 ⟨rfl, hb3⟩
    have hdb3 := H2.out.1.old hb3
    have hm3 := old_blk hb3 H2.out.2.1
    have hz3 := Nat.le_trans H2.out.2.2.1 hb3.size
    have hj3 := HY.out.1 _ _ _ H2.out.2.2.2 (hb3.mono H2.out.2.2.1)
    have H3 := Lib.hid (And.intro hdb3 (And.intro hm3 (And.intro hz3 hj3)))
    clear c0 c1 c2 c3 c4 c5 c6 m0 m1 m2 m3 m4 m5 hb3 hz3 hj3 hdb3
    cases nb
    · have hnv : ¬ (live e ∧ dayB e mo1 d1 wd1 = true) := fun h => by have := HI.out.2.2.1.2 h; cases this
      have hdp := HD.out.p.skip n1 (HI.out.2.2.2.2.1 hnv)
      have HP := Lib.hid hdp
      clear hnv hdp hm3
      obtain ⟨⟨m0, m1, m2, m3, m4, m5⟩, _⟩ := Ca.mom_cells H3.out.2.1
      gi_wp2_with fail
      refine ⟨trivial, (fun h => by cases h), (callsIn_wide.2 (later_any F y1 mo1 d1 wd1 (lst (hM e) : Nat) (lst (mM e) : Nat) st HM.out.1 (by have := HI.out.2.2.2.2.2.2.2; omega) (by omega) HI.out.2.2.2.2.2.2.1 _)).mono ?_⟩
      rintro q w4 ⟨y2, mo2, d2, wd2, rfl, im2, hb4⟩
      have hdb4 := H3.out.1.old hb4
      have hm4 := old_blk hb4 H3.out.2.1
      have hz4 := Nat.le_trans H3.out.2.2.1 hb4.size
      have hj4 := HY.out.1 _ _ _ H3.out.2.2.2 (hb4.mono H3.out.2.2.1)
      have hdl := DL.next (e := e) (F' := F + 1440 * st) (fr := fr) (tO := tO) HY.out.1 HB.out.1 HB.out.2.1 HB.out.2.2 hj4 hdb4 hz4 hm4 im2 HP.out (by omega) (by omega) rfl
      have H4 := Lib.hid hdl
      have hlt4 := (Array.getElem?_eq_some_iff.1 hm4).1
      clear m0 m1 m2 m3 m4 m5 hb4 hdb4 hz4 hj4 hdl im2
      obtain ⟨⟨m0, m1, m2, m3, m4, m5⟩, fz⟩ := Ca.mom_cells hm4
      have f0 := fz 0
      have f1 := fz 1
      have f2 := fz 2
      have f3 := fz 3
      have f4 := fz 4
      have f5 := fz 5
      clear fz hm4
      gi_wp2_with fail
      refine ⟨⟨F + 1440 * st, bb + st, x, congrArg (Value.int .i64) (by omega), rfl, H4.out⟩, ?_⟩
      simp [RowKit.intOf]
      omega
    · have hlv := HI.out.2.2.1.1 rfl
      obtain rfl := HI.out.2.2.2.1 hlv.2
      have hdlF : dl e F := ⟨hlv.1, HI.out.2.2.2.2.2.1.2 hlv.2⟩
      obtain ⟨fn, tmps, assign, body, hy, hR⟩ := HY.out.2.1 x F w3 H3.out.2.2.2 (HD.out.p.tell hdlF hFt) H3.out.2.2.1
      have hdp := HD.out.p.told hF0
      have HP := Lib.hid hdp
      clear hlv hdlF hm3 hdp
      gi_wp2_with fail
      refine ⟨(fun h => by cases h), hR.mono ?_⟩
      rintro e' w5 (⟨rfl, hJ5, hm5⟩ | ⟨rfl, hK5, _⟩)
      · have hdb5 := H3.out.1.keep hm5 (fun k hk => (HY.out.2.2 k hk).1)
        have hmm5 := (hm5.block mB (Array.getElem?_eq_some_iff.1 H3.out.2.1).1 (fun hk => by have := (HY.out.2.2 _ hk).2; have := HW.out.1.size; have := HB.out.1; omega)).trans H3.out.2.1
        have hz5 := Nat.le_trans H3.out.2.2.1 hm5.size
        have H5 := Lib.hid (And.intro hdb5 (And.intro hmm5 (And.intro hz5 hJ5)))
        clear hdb5 hmm5 hz5 hJ5 hm5
        obtain ⟨⟨m0, m1, m2, m3, m4, m5⟩, _⟩ := Ca.mom_cells H5.out.2.1
        gi_wp2_with fail
        refine ⟨trivial, (fun h => by cases h), (callsIn_wide.2 (later_any F y1 mo1 d1 wd1 (lst (hM e) : Nat) (lst (mM e) : Nat) 1 HM.out.1 (by have := HI.out.2.2.2.2.2.2.2; omega) (by omega) HI.out.2.2.2.2.2.2.1 _)).mono ?_⟩
        rintro q w4 ⟨y2, mo2, d2, wd2, rfl, im2, hb4⟩
        have hdb4 := H5.out.1.old hb4
        have hm4 := old_blk hb4 H5.out.2.1
        have hz4 := Nat.le_trans H5.out.2.2.1 hb4.size
        have hj4 := HY.out.1 _ _ _ H5.out.2.2.2 (hb4.mono H5.out.2.2.1)
        have hdl := DL.next (e := e) (F' := F + 1440 * 1) (fr := fr) (tO := tO) HY.out.1 HB.out.1 HB.out.2.1 HB.out.2.2 hj4 hdb4 hz4 hm4 im2 HP.out (by omega) (by omega) rfl
        have H4 := Lib.hid hdl
        have hlt4 := (Array.getElem?_eq_some_iff.1 hm4).1
        clear m0 m1 m2 m3 m4 m5 hb4 hdb4 hz4 hj4 hdl im2
        obtain ⟨⟨m0, m1, m2, m3, m4, m5⟩, fz⟩ := Ca.mom_cells hm4
        have f0 := fz 0
        have f1 := fz 1
        have f2 := fz 2
        have f3 := fz 3
        have f4 := fz 4
        have f5 := fz 5
        clear fz hm4
        gi_wp2_with fail
        refine ⟨⟨F + 1440 * 1, 0, F, congrArg (Value.int .i64) (by omega), rfl, H4.out⟩, ?_⟩
        simp [RowKit.intOf]
        omega
      · gi_wp2_with fail
        refine bodyPost_ret (results_none rfl _ _ _) rfl ?_
        exact ⟨⟨_, rfl⟩, .inr ⟨_, hK5⟩⟩
end Go.Proofs.YtkkanggkbbmfnaaGreatDoor.Fi
