
/- commands: the law CommandUnlike, walked -/
import Derived.Test.YtfidmjpjfigmcaaCmJ
import Derived.Test.YtfidmjpjfigmcaaCmB
import Derived.Test.YtfidmjpjfigmcaaCm5
import Derived.Test.YtfidmjpjfigmcaaCmF
import Derived.WalkSmall
namespace Go.Proofs.Ytfidmjpjfigmcaa.Cm
open Go.RowKit Go.Lib Go.Shelf Wn Rf By Ht
open Sp (T join)
set_option linter.unusedVariables false
set_option maxRecDepth 20000
theorem req_nums {p q : Req} (h : reqB p = reqB q) : p.cl = q.cl ∧ p.nu = q.nu := by
  unfold reqB at h
  obtain ⟨h1, h⟩ := uvr_inj _ _ _ _ h
  exact ⟨h1, (uvr_inj _ _ _ _ h).1⟩
theorem req_sm {p q : Req} {a b : Cmd} (hp : isK p.c.kd = true) (hq : isK q.c.kd = true) (dp : p.c.sp.ds.length = p.c.sp.n) (dq : q.c.sp.ds.length = q.c.sp.n) (ha : Only p.c a) (hb : Only q.c b) (h1 : p.cl = q.cl) (h2 : p.nu = q.nu) :
    ((⟨(reqB p).toArray⟩ : ByteArray).toList == (⟨(reqB q).toArray⟩ : ByteArray).toList) = smC a b := by
  have e1 : ∀ l : List UInt8, (⟨l.toArray⟩ : ByteArray).toList = l := fun l => by rw [ByteArray.toList_eq]
  rw [e1, e1]
  by_cases h : reqB p = reqB q
  · rw [smC_yes ((req_iff hp hq dp dq ha hb).1 h).2.2, h]; simp
  · rw [smC_no (fun e => h ((req_iff hp hq dp dq ha hb).2 ⟨h1, h2, e⟩))]; simpa using h
set_option maxHeartbeats 8000000 in
theorem unlike_law (p q : Req) (w : World) (dp : Sp.Dp w p.c.sp.a p.c.sp.n p.c.sp.ds) (dq : Sp.Dp w q.c.sp.a q.c.sp.n q.c.sp.ds) (wp : p.wf) (wq : q.wf) (np : p.c.sp.n ≤ maxLen) (nq' : q.c.sp.n ≤ maxLen) :
    Calls Try.prog 5 #[.agg p.cells, .agg q.cells] w fun e w' => e = .returned (.bool true) ∧ Below w.heap.size w w' := by
  have hmix : Try.prog.follows .mixedOrders = true := by kernel_rfl
  have HL := Lib.hid lives18_any
  obtain ⟨V, hV⟩ : ∃ V, V = (w.alloc (.cells p.cells 31)).alloc (.cells q.cells 31) := ⟨_, rfl⟩
  have hb : Below w.heap.size w V := by rw [hV]; exact ((Below.refl _ _).alloc (Nat.le_refl _) _).alloc (by simp) _
  have hs : V.heap.size = w.heap.size + 2 := by rw [hV]; simp
  have hx0 : V.heap[w.heap.size]? = some (.cells p.cells 31 (0, 0)) := by rw [hV]; exact ((Below.refl (w.heap.size + 1) _).alloc (by simp) _ |>.block _ (by omega)).trans (heap_alloc_new w _)
  have hx1 : V.heap[w.heap.size + 1]? = some (.cells q.cells 31 (0, 0)) := by
    rw [hV]
    have := heap_alloc_new (w.alloc (.cells p.cells 31)) (.cells q.cells 31)
    rwa [World.size_alloc] at this
  have s0 : w.heap.size < V.heap.size := by omega
  have s1 : w.heap.size + 1 < V.heap.size := by omega
  have HD := Lib.hid (And.intro hb (And.intro (dp.old hb) (And.intro (dq.old hb) (And.intro wp (And.intro wq (And.intro np nq'))))))
  have HX := Lib.hid (And.intro hx0 hx1)
  -- the blocks, later
  have late : ∀ W, Below V.heap.size V W → W.heap[w.heap.size]? = some (.cells p.cells 31 (0, 0)) ∧ W.heap[w.heap.size + 1]? = some (.cells q.cells 31 (0, 0)) := fun W h => ⟨(h.block _ s0).trans HX.out.1, (h.block _ s1).trans HX.out.2⟩
  have HLT := Lib.hid late
  clear late hb hx0 hx1 dp dq wp wq np nq' hs
  unfold Req.cells at hV ⊢
  go_enter Try.func5, Try.ntmps5
  go_wp2_with fail
  rw [← hV]
  have HV := Lib.hid hV
  clear hV
  refine (HL.out V).mono ?_
  rintro e w1 ⟨rfl, b1⟩
  have B1 := Lib.hid b1
  clear b1
  have k0 := (cell_at (HLT.out w1 B1.out).1 (i := 2) (v := .int .i64 p.c.kd) rfl).1
  have k1 := (cell_at (HLT.out w1 B1.out).1 (i := 3) (v := .string p.c.nm) rfl).1
  have k2 := (cell_at (HLT.out w1 B1.out).1 (i := 4) (v := .string p.c.wk) rfl).1
  have k3 := (cell_at (HLT.out w1 B1.out).1 (i := 5) (v := .int .u64 p.c.tk) rfl).1
  have k4 := (cell_at (HLT.out w1 B1.out).1 (i := 6) (v := .int .i64 p.c.vl) rfl).1
  have k5 := (cell_at (HLT.out w1 B1.out).1 (i := 7) (v := .string p.c.sp.nm) rfl).1
  have k6 := (cell_at (HLT.out w1 B1.out).1 (i := 8) (v := .string p.c.sp.tn) rfl).1
  have k7 := (cell_at (HLT.out w1 B1.out).1 (i := 9) (v := .int .i64 p.c.sp.pr) rfl).1
  have k8 := (cell_at (HLT.out w1 B1.out).1 (i := 10) (v := .int .i64 p.c.sp.dl) rfl).1
  have k9 := (cell_at (HLT.out w1 B1.out).1 (i := 11) (v := .slice p.c.sp.a p.c.sp.n p.c.sp.c) rfl).1
  have k10 := (cell_at (HLT.out w1 B1.out).1 (i := 12) (v := .int .i64 p.c.sp.bs) rfl).1
  have k11 := (cell_at (HLT.out w1 B1.out).1 (i := 13) (v := .int .i64 p.c.sp.cp) rfl).1
  have k12 := (cell_at (HLT.out w1 B1.out).1 (i := 14) (v := .int .i64 p.c.sp.at') rfl).1
  have k13 := (cell_at (HLT.out w1 B1.out).1 (i := 15) (v := .int .i64 p.c.sp.ls) rfl).1
  have k14 := (cell_at (HLT.out w1 B1.out).1 (i := 16) (v := .string p.c.sp.cr) rfl).1
  have k15 := (cell_at (HLT.out w1 B1.out).1 (i := 17) (v := .int .i64 p.c.sp.ct) rfl).1
  have HF := Lib.hid (few_any p.c (w := w1) (Sp.Dp.old HD.out.2.1 B1.out) HD.out.2.2.2.2.2.1)
  go_wp2_with fail
  clear k0 k1 k2 k3 k4 k5 k6 k7 k8 k9 k10 k11 k12 k13 k14 k15
  refine HF.out.mono ?_
  rintro e w2 ⟨r0, rfl, hr0, b2⟩
  have B2 := Lib.hid (B1.out.trans (b2.mono B1.out.size))
  have HR0 := Lib.hid hr0
  clear b2 hr0 HF
  cases r0 with
  | false =>
    go_wp2_with fail
    refine (HL.out w2).mono ?_
    rintro e w3 ⟨rfl, b3⟩
    have B3 := Lib.hid (HD.out.1.trans ((B2.out.trans (b3.mono B2.out.size)).mono HD.out.1.size))
    clear b3
    go_wp2_with fail
    go_ret
    exact ⟨rfl, B3.out⟩
  | true =>
  have k0 := (cell_at (HLT.out w2 B2.out).2 (i := 2) (v := .int .i64 q.c.kd) rfl).1
  have k1 := (cell_at (HLT.out w2 B2.out).2 (i := 3) (v := .string q.c.nm) rfl).1
  have k2 := (cell_at (HLT.out w2 B2.out).2 (i := 4) (v := .string q.c.wk) rfl).1
  have k3 := (cell_at (HLT.out w2 B2.out).2 (i := 5) (v := .int .u64 q.c.tk) rfl).1
  have k4 := (cell_at (HLT.out w2 B2.out).2 (i := 6) (v := .int .i64 q.c.vl) rfl).1
  have k5 := (cell_at (HLT.out w2 B2.out).2 (i := 7) (v := .string q.c.sp.nm) rfl).1
  have k6 := (cell_at (HLT.out w2 B2.out).2 (i := 8) (v := .string q.c.sp.tn) rfl).1
  have k7 := (cell_at (HLT.out w2 B2.out).2 (i := 9) (v := .int .i64 q.c.sp.pr) rfl).1
  have k8 := (cell_at (HLT.out w2 B2.out).2 (i := 10) (v := .int .i64 q.c.sp.dl) rfl).1
  have k9 := (cell_at (HLT.out w2 B2.out).2 (i := 11) (v := .slice q.c.sp.a q.c.sp.n q.c.sp.c) rfl).1
  have k10 := (cell_at (HLT.out w2 B2.out).2 (i := 12) (v := .int .i64 q.c.sp.bs) rfl).1
  have k11 := (cell_at (HLT.out w2 B2.out).2 (i := 13) (v := .int .i64 q.c.sp.cp) rfl).1
  have k12 := (cell_at (HLT.out w2 B2.out).2 (i := 14) (v := .int .i64 q.c.sp.at') rfl).1
  have k13 := (cell_at (HLT.out w2 B2.out).2 (i := 15) (v := .int .i64 q.c.sp.ls) rfl).1
  have k14 := (cell_at (HLT.out w2 B2.out).2 (i := 16) (v := .string q.c.sp.cr) rfl).1
  have k15 := (cell_at (HLT.out w2 B2.out).2 (i := 17) (v := .int .i64 q.c.sp.ct) rfl).1
  have HF := Lib.hid (few_any q.c (w := w2) (Sp.Dp.old HD.out.2.2.1 B2.out) HD.out.2.2.2.2.2.2)
  go_wp2_with fail
  clear k0 k1 k2 k3 k4 k5 k6 k7 k8 k9 k10 k11 k12 k13 k14 k15
  refine HF.out.mono ?_
  rintro e w3 ⟨r1, rfl, hr1, b3⟩
  have B3 := Lib.hid (B2.out.trans (b3.mono B2.out.size))
  have HR1 := Lib.hid hr1
  clear b3 hr1 HF
  cases r1 with
  | false =>
    go_wp2_with fail
    refine (HL.out w3).mono ?_
    rintro e w4 ⟨rfl, b4⟩
    have B4 := Lib.hid (HD.out.1.trans ((B3.out.trans (b4.mono B3.out.size)).mono HD.out.1.size))
    clear b4
    go_wp2_with fail
    go_ret
    exact ⟨rfl, B4.out⟩
  | true =>
  have mp := HR0.out (by first | rfl | trivial)
  have mq := HR1.out (by first | rfl | trivial)
  have HY := Lib.hid (Bytes_any p (w := w3) (Sp.Dp.old HD.out.2.1 B3.out) HD.out.2.2.2.1 mp)
  have rp : w3.rangeAt w.heap.size 0 p.cells.toList := range_of (by rw [Array.toArray_toList]; exact (HLT.out w3 B3.out).1)
  have HM := Lib.hid (And.intro mp mq)
  clear mp mq HR0 HR1
  go_wp2_with (refine wpList_load_mid rfl 31 _ rfl w.heap.size 0 rfl p.cells.toList _ rp Try.underlying31 rfl info_req ?_)
  clear rp
  refine HY.out.mono ?_
  rintro e w4 ⟨pa, pn, pc, pe, rfl, hp, b4⟩
  have B4 := Lib.hid (B3.out.trans (b4.mono B3.out.size))
  have HP := Lib.hid hp
  have rq : w4.rangeAt (w.heap.size + 1) 0 q.cells.toList := range_of (by rw [Array.toArray_toList]; exact (HLT.out w4 B4.out).2)
  have HZ := Lib.hid (Bytes_any q (w := w4) (Sp.Dp.old HD.out.2.2.1 B4.out) HD.out.2.2.2.2.1 HM.out.2)
  clear hp b4 HY
  go_wp2_with (refine wpList_load_mid rfl 31 _ rfl (w.heap.size + 1) 0 rfl q.cells.toList _ rq Try.underlying31 rfl info_req ?_)
  clear rq
  refine HZ.out.mono ?_
  rintro e w5 ⟨qa, qn, qc, qe, rfl, hq, b5⟩
  have B5 := Lib.hid (And.intro (B4.out.trans (b5.mono B4.out.size)) b5)
  have HQ := Lib.hid hq
  clear hq b5 HZ
  have HW := Lib.hid (HD.out.1.trans (B5.out.1.mono HD.out.1.size))
  by_cases h0 : pe = 0
  case neg =>
    have hne : (pe != 0) = true := by simpa using h0
    go_wp2_with fail
    go_ret
    exact ⟨rfl, HW.out⟩
  by_cases h1 : qe = 0
  case neg =>
    have hne : (qe != 0) = true := by simpa using h1
    subst h0
    go_wp2_with fail
    go_ret
    exact ⟨rfl, HW.out⟩
  obtain ⟨kp, rfl, ip⟩ := HP.out h0
  obtain ⟨kq, rfl, iq⟩ := HQ.out h1
  subst h0 h1
  have cp : ∀ W, Below w5.heap.size w5 W → (convert 22 9 (.slice pa (reqB p).length pc)).run Try.prog W = .ok (.string ⟨(reqB p).toArray⟩) W := fun W h => str_of ((ip.old B5.out.2).old h)
  have cq : ∀ W, Below w5.heap.size w5 W → (convert 22 9 (.slice qa (reqB q).length qc)).run Try.prog W = .ok (.string ⟨(reqB q).toArray⟩) W := fun W h => str_of (iq.old h)
  have HC := Lib.hid (And.intro cp cq)
  have HK := Lib.hid (And.intro kp kq)
  have hp5 := (HLT.out w5 B5.out.1).1
  have hq5 := (HLT.out w5 B5.out.1).2
  have p0 := (cell_at hp5 (i := 0) (v := .int .u64 p.cl) rfl).1
  have p1 := (cell_at hp5 (i := 1) (v := .int .u64 p.nu) rfl).1
  have q0 := (cell_at hq5 (i := 0) (v := .int .u64 q.cl) rfl).1
  have q1 := (cell_at hq5 (i := 1) (v := .int .u64 q.nu) rfl).1
  have t0 : w.heap.size < w5.heap.size := lt_of_block hp5
  have t1 : w.heap.size + 1 < w5.heap.size := lt_of_block hq5
  obtain ⟨PL, hPL⟩ : ∃ n, n = (reqB p).length := ⟨_, rfl⟩
  obtain ⟨QL, hQL⟩ : ∃ n, n = (reqB q).length := ⟨_, rfl⟩
  obtain ⟨PS, hPS⟩ : ∃ S : ByteArray, S = ⟨(reqB p).toArray⟩ := ⟨_, rfl⟩
  obtain ⟨QS, hQS⟩ : ∃ S : ByteArray, S = ⟨(reqB q).toArray⟩ := ⟨_, rfl⟩
  rw [← hPL, ← hQL, ← hPS, ← hQS] at HC
  rw [← hPL, ← hQL]
  have HS := Lib.hid (And.intro hPS hQS)
  clear ip iq cp cq kp kq hPL hQL hPS hQS HP HQ
  by_cases hn : p.cl = q.cl
  case neg =>
    have hr : (PS.toList == QS.toList) = false := by
      rw [HS.out.1, HS.out.2]
      exact str_ne (fun e => hn (req_nums (by have := congrArg (fun S : ByteArray => S.data.toList) e; simpa using this)).1)
    have ht : ((p.cl : Int) == (q.cl : Int)) = false := beq_eq_false_iff_ne.2 (by omega)
    clear hn
    go_wp2_with fail
    go_quiet (fail)
    obtain ⟨U, hU⟩ : ∃ U, U = w5.drewN nq := ⟨_, rfl⟩
    have hbU : Below w5.heap.size w5 U := by rw [hU]; exact below_drewN (Below.refl _ _) nq
    have c1 := HC.out.1 U hbU
    have c2 := HC.out.2 U hbU
    have Q := Lib.hid (HW.out.trans (hbU.mono HW.out.size))
    rw [← hU]
    clear hU hbU
    go_wp2_with fail
    go_ret
    exact ⟨rfl, Q.out⟩
  have hcl := hn
  clear hn
  by_cases hn : p.nu = q.nu
  case neg =>
    have hr : (PS.toList == QS.toList) = false := by
      rw [HS.out.1, HS.out.2]
      exact str_ne (fun e => hn (req_nums (by have := congrArg (fun S : ByteArray => S.data.toList) e; simpa using this)).2)
    have ht : ((p.nu : Int) == (q.nu : Int)) = false := beq_eq_false_iff_ne.2 (by omega)
    clear hn
    rw [hcl] at p0
    go_wp2_with fail
    go_quiet (fail)
    obtain ⟨U, hU⟩ : ∃ U, U = w5.drewN nq := ⟨_, rfl⟩
    have hbU : Below w5.heap.size w5 U := by rw [hU]; exact below_drewN (Below.refl _ _) nq
    have c1 := HC.out.1 U hbU
    have c2 := HC.out.2 U hbU
    have Q := Lib.hid (HW.out.trans (hbU.mono HW.out.size))
    rw [← hU]
    clear hU hbU
    go_wp2_with fail
    go_ret
    exact ⟨rfl, Q.out⟩
  have hnu := hn
  clear hn
  rw [hcl] at p0
  rw [hnu] at p1
  have HON := Lib.hid (And.intro hcl hnu)
  clear hcl hnu
  have rP : w5.rangeAt w.heap.size 2 p.c.cells.toList := range_mid hp5 (fun j v hj => by
    have hj' : j < 16 := (List.getElem?_eq_some_iff.1 hj).1
    rw [← hj]
    match j, hj' with
    | 0, _ | 1, _ | 2, _ | 3, _ | 4, _ | 5, _ | 6, _ | 7, _ | 8, _ | 9, _ | 10, _ | 11, _ | 12, _ | 13, _ | 14, _ | 15, _ => rfl)
  have rQ : w5.rangeAt (w.heap.size + 1) 2 q.c.cells.toList := range_mid hq5 (fun j v hj => by
    have hj' : j < 16 := (List.getElem?_eq_some_iff.1 hj).1
    rw [← hj]
    match j, hj' with
    | 0, _ | 1, _ | 2, _ | 3, _ | 4, _ | 5, _ | 6, _ | 7, _ | 8, _ | 9, _ | 10, _ | 11, _ | 12, _ | 13, _ | 14, _ | 15, _ => rfl)
  have HR := Lib.hid (And.intro rP rQ)
  have HO1 := Lib.hid (fun (W : World) (h : Below w5.heap.size w5 W) => Only_any p.c W (Sp.Dp.old (Sp.Dp.old HD.out.2.1 B5.out.1) h) (by have := HM.out.1.2.2.2.2.2.1; omega))
  have HO2 := Lib.hid (fun (W : World) (h : Below w5.heap.size w5 W) => Only_any q.c W (Sp.Dp.old (Sp.Dp.old HD.out.2.2.1 B5.out.1) h) (by have := HM.out.2.2.2.2.2.2.1; omega))
  have HSM := Lib.hid (fun (a b : Cmd) (ha : Only p.c a) (hb : Only q.c b) (W : World) (da : Sp.Dp W a.sp.a a.sp.n a.sp.ds) (db : Sp.Dp W b.sp.a b.sp.n b.sp.ds) =>
    same_any a b (w := W) da db (only_wf ha HD.out.2.2.2.1.2.2.2.2.2) (only_wf hb HD.out.2.2.2.2.1.2.2.2.2.2) (only_med ha HM.out.1.2.2) (only_med hb HM.out.2.2.2))
  have cl : ∀ (k i : Nat) (v : Value), k < w5.heap.size → w5.cell? ⟨k, i, none⟩ = some v → ∀ X, Below w5.heap.size w5 X → X.cell? ⟨k, i, none⟩ = some v := fun k i v hk h X hX => (hX.cell (p := ⟨k, i, none⟩) hk).trans h
  clear rP rQ hp5 hq5
  go_wp2_with fail
  refine begin' 21 (fun ZZ => Below w5.heap.size w5 ZZ) hmix ((Below.refl _ w5).drew) (fun hS0 => ?_)
  refine Ht.takeD 8 (i := 0) ⟨some 41, _, _, _, _, _⟩ (.pointer (some ⟨w.heap.size, 0, none⟩)) rfl (by kernel_rfl) (by kernel_rfl) (by decide) (by kernel_rfl) (by kernel_rfl) (by kernel_rfl) hS0 (Or.inl ⟨by rfl, by (intro X hX; go_simp)⟩) ?_
  simp only [Act.put, List.setIfInBounds_toArray, List.set_cons_zero, List.set_cons_succ]
  refine Ht.takeD 8 (i := 1) ⟨some 42, _, _, _, _, _⟩ (.int .u64 q.cl) rfl (by kernel_rfl) (by kernel_rfl) (by decide) (by kernel_rfl) (by kernel_rfl) (by kernel_rfl) hS0 (Or.inl ⟨by rfl, by (intro X hX; have := cl _ 0 _ t0 p0 X hX; go_simp)⟩) ?_
  simp only [Act.put, List.setIfInBounds_toArray, List.set_cons_zero, List.set_cons_succ]
  refine Ht.takeD 8 (i := 2) ⟨some 43, _, _, _, _, _⟩ (.pointer (some ⟨w.heap.size + 1, 0, none⟩)) rfl (by kernel_rfl) (by kernel_rfl) (by decide) (by kernel_rfl) (by kernel_rfl) (by kernel_rfl) hS0 (Or.inl ⟨by rfl, by (intro X hX; go_simp)⟩) ?_
  simp only [Act.put, List.setIfInBounds_toArray, List.set_cons_zero, List.set_cons_succ]
  refine Ht.takeD 8 (i := 3) ⟨some 44, _, _, _, _, _⟩ (.int .u64 q.cl) rfl (by kernel_rfl) (by kernel_rfl) (by decide) (by kernel_rfl) (by kernel_rfl) (by kernel_rfl) hS0 (Or.inl ⟨by rfl, by (intro X hX; have := cl _ 0 _ t1 q0 X hX; go_simp)⟩) ?_
  simp only [Act.put, List.setIfInBounds_toArray, List.set_cons_zero, List.set_cons_succ]
  refine Ht.takeD 8 (i := 4) ⟨some 45, _, _, _, _, _⟩ (.bool true) rfl (by kernel_rfl) (by kernel_rfl) (by decide) (by kernel_rfl) (by kernel_rfl) (by kernel_rfl) hS0 (Or.inl ⟨by rfl, by (intro X hX; go_simp)⟩) ?_
  simp only [Act.put, List.setIfInBounds_toArray, List.set_cons_zero, List.set_cons_succ]
  refine Ht.takeD 8 (i := 5) ⟨some 46, _, _, _, _, _⟩ (.bool true) rfl (by kernel_rfl) (by kernel_rfl) (by decide) (by kernel_rfl) (by kernel_rfl) (by kernel_rfl) hS0 (Or.inl ⟨by rfl, by (intro X hX; go_simp)⟩) ?_
  simp only [Act.put, List.setIfInBounds_toArray, List.set_cons_zero, List.set_cons_succ]
  refine Ht.takeD 8 (i := 6) ⟨some 47, _, _, _, _, _⟩ (.pointer (some ⟨w.heap.size, 1, none⟩)) rfl (by kernel_rfl) (by kernel_rfl) (by decide) (by kernel_rfl) (by kernel_rfl) (by kernel_rfl) hS0 (Or.inl ⟨by rfl, by (intro X hX; go_simp)⟩) ?_
  simp only [Act.put, List.setIfInBounds_toArray, List.set_cons_zero, List.set_cons_succ]
  refine Ht.takeD 8 (i := 7) ⟨some 48, _, _, _, _, _⟩ (.int .u64 q.nu) rfl (by kernel_rfl) (by kernel_rfl) (by decide) (by kernel_rfl) (by kernel_rfl) (by kernel_rfl) hS0 (Or.inl ⟨by rfl, by (intro X hX; have := cl _ 1 _ t0 p1 X hX; go_simp)⟩) ?_
  simp only [Act.put, List.setIfInBounds_toArray, List.set_cons_zero, List.set_cons_succ]
  refine Ht.takeD 8 (i := 8) ⟨some 49, _, _, _, _, _⟩ (.pointer (some ⟨w.heap.size + 1, 1, none⟩)) rfl (by kernel_rfl) (by kernel_rfl) (by decide) (by kernel_rfl) (by kernel_rfl) (by kernel_rfl) hS0 (Or.inl ⟨by rfl, by (intro X hX; go_simp)⟩) ?_
  simp only [Act.put, List.setIfInBounds_toArray, List.set_cons_zero, List.set_cons_succ]
  refine Ht.takeD 8 (i := 9) ⟨some 50, _, _, _, _, _⟩ (.int .u64 q.nu) rfl (by kernel_rfl) (by kernel_rfl) (by decide) (by kernel_rfl) (by kernel_rfl) (by kernel_rfl) hS0 (Or.inl ⟨by rfl, by (intro X hX; have := cl _ 1 _ t1 q1 X hX; go_simp)⟩) ?_
  simp only [Act.put, List.setIfInBounds_toArray, List.set_cons_zero, List.set_cons_succ]
  refine Ht.takeD 8 (i := 10) ⟨some 51, _, _, _, _, _⟩ (.bool true) rfl (by kernel_rfl) (by kernel_rfl) (by decide) (by kernel_rfl) (by kernel_rfl) (by kernel_rfl) hS0 (Or.inl ⟨by rfl, by (intro X hX; go_simp)⟩) ?_
  simp only [Act.put, List.setIfInBounds_toArray, List.set_cons_zero, List.set_cons_succ]
  refine Ht.takeD 8 (i := 11) ⟨some 52, _, _, _, _, _⟩ (.bool true) rfl (by kernel_rfl) (by kernel_rfl) (by decide) (by kernel_rfl) (by kernel_rfl) (by kernel_rfl) hS0 (Or.inl ⟨by rfl, by (intro X hX; go_simp)⟩) ?_
  simp only [Act.put, List.setIfInBounds_toArray, List.set_cons_zero, List.set_cons_succ]
  refine Ht.takeD 8 (i := 12) ⟨some 53, _, _, _, _, _⟩ (.bool true) rfl (by kernel_rfl) (by kernel_rfl) (by decide) (by kernel_rfl) (by kernel_rfl) (by kernel_rfl) hS0 (Or.inl ⟨by rfl, by (intro X hX; go_simp)⟩) ?_
  simp only [Act.put, List.setIfInBounds_toArray, List.set_cons_zero, List.set_cons_succ]
  refine Ht.takeD 8 (i := 13) ⟨some 54, _, _, _, _, _⟩ (.pointer (some ⟨w.heap.size, 2, none⟩)) rfl (by kernel_rfl) (by kernel_rfl) (by decide) (by kernel_rfl) (by kernel_rfl) (by kernel_rfl) hS0 (Or.inl ⟨by rfl, by (intro X hX; go_simp)⟩) ?_
  simp only [Act.put, List.setIfInBounds_toArray, List.set_cons_zero, List.set_cons_succ]
  refine Ht.takeD 8 (i := 14) ⟨some 55, _, _, _, _, _⟩ (.agg p.c.cells) rfl (by kernel_rfl) (by kernel_rfl) (by decide) (by kernel_rfl) (by kernel_rfl) (by kernel_rfl) hS0 (yieldsIf_load_mid (by rfl) 29 _ rfl (w.heap.size) 2 rfl p.c.cells.toList _ (fun X hX => range_old HR.out.1 hX) Try.underlying29 rfl info_cmd2) ?_
  simp only [Act.put, List.setIfInBounds_toArray, List.set_cons_zero, List.set_cons_succ]
  refine Ht.takeD 8 (i := 16) ⟨some 57, _, _, _, _, _⟩ (.pointer (some ⟨w.heap.size + 1, 2, none⟩)) rfl (by kernel_rfl) (by kernel_rfl) (by decide) (by kernel_rfl) (by kernel_rfl) (by kernel_rfl) hS0 (Or.inl ⟨by rfl, by (intro X hX; go_simp)⟩) ?_
  simp only [Act.put, List.setIfInBounds_toArray, List.set_cons_zero, List.set_cons_succ]
  refine Ht.takeD 8 (i := 17) ⟨some 58, _, _, _, _, _⟩ (.agg q.c.cells) rfl (by kernel_rfl) (by kernel_rfl) (by decide) (by kernel_rfl) (by kernel_rfl) (by kernel_rfl) hS0 (yieldsIf_load_mid (by rfl) 29 _ rfl (w.heap.size + 1) 2 rfl q.c.cells.toList _ (fun X hX => range_old HR.out.2 hX) Try.underlying29 rfl info_cmd2) ?_
  simp only [Act.put, List.setIfInBounds_toArray, List.set_cons_zero, List.set_cons_succ]
  refine Ht.step (i := 15) ⟨some 56, _, _, _, _, _⟩ rfl (by kernel_rfl) (by rfl) (fun K hK => ?_)
  refine Ht.enter 10 #[.agg p.c.cells] (by have hen := fun args w => enters_of (P := Try.prog) Try.func10 (by kernel_rfl) rfl args w; go_simp) (HO1.out _ hS0) ?_
  rintro e v1 ⟨o1, rfl, ho1, hd1, b1_⟩
  have BB1 := Lib.hid b1_
  have y1 : Below w5.heap.size w5 v1 := hS0.trans (BB1.out.mono hS0.size)
  clear b1_
  have A1 := Lib.hid (And.intro ho1 hd1)
  clear ho1 hd1
  refine ⟨_, rfl, hK _ _ (fun hn => y1) (fun hnx => ?_)⟩
  clear hK K hnx
  try simp only [Act.put, List.setIfInBounds_toArray, List.set_cons_zero, List.set_cons_succ]
  refine Ht.step (i := 18) ⟨some 59, _, _, _, _, _⟩ rfl (by kernel_rfl) (by rfl) (fun K hK => ?_)
  refine Ht.enter 10 #[.agg q.c.cells] (by have hen := fun args w => enters_of (P := Try.prog) Try.func10 (by kernel_rfl) rfl args w; go_simp) (HO2.out _ y1) ?_
  rintro e v2 ⟨o2, rfl, ho2, hd2, b2_⟩
  have BB2 := Lib.hid b2_
  have y2 : Below w5.heap.size w5 v2 := y1.trans (BB2.out.mono y1.size)
  have A2 := Lib.hid (And.intro ho2 (And.intro hd2 (Sp.Dp.old A1.out.2 b2_)))
  clear ho2 hd2 b2_
  have HT := Lib.hid (HSM.out o1 o2 A1.out.1 A2.out.1 v2 A2.out.2.2 A2.out.2.1)
  obtain ⟨r, hr⟩ : ∃ r, r = smC o1 o2 := ⟨_, rfl⟩
  rw [← hr] at HT
  have Hr := Lib.hid hr
  clear hr
  refine ⟨_, rfl, hK _ _ (fun hn => y2) (fun hnx => ?_)⟩
  clear hK K hnx
  try simp only [Act.put, List.setIfInBounds_toArray, List.set_cons_zero, List.set_cons_succ]
  refine Ht.step (i := 19) ⟨some 60, _, _, _, _, _⟩ rfl (by kernel_rfl) (by rfl) (fun K hK => ?_)
  refine Ht.enter 8 #[.agg o1.cells, .agg o2.cells] (by have hen := fun args w => enters_of (P := Try.prog) Try.func8 (by kernel_rfl) rfl args w; go_simp) (HT.out) ?_
  rintro e v3 ⟨rfl, b3_⟩
  have BB3 := Lib.hid b3_
  have y3 : Below w5.heap.size w5 v3 := y2.trans (BB3.out.mono y2.size)
  clear b3_
  refine ⟨_, rfl, hK _ _ (fun hn => y3) (fun hnx => ?_)⟩
  clear hK K hnx
  try simp only [Act.put, List.setIfInBounds_toArray, List.set_cons_zero, List.set_cons_succ]
  refine Ht.takeD 8 (i := 20) ⟨some 61, _, _, _, _, _⟩ (.bool r) rfl (by kernel_rfl) (by kernel_rfl) (by decide) (by kernel_rfl) (by kernel_rfl) (by kernel_rfl) y3 (Or.inl ⟨by rfl, by (intro X hX; go_simp)⟩) ?_
  simp only [Act.put, List.setIfInBounds_toArray, List.set_cons_zero, List.set_cons_succ]
  refine Ht.step (i := 21) ⟨some 9, _, _, _, _, _⟩ rfl (by kernel_rfl) (by rfl) (fun K hK => ?_)
  go_simp
  refine hK _ _ (fun hn => absurd rfl hn) (fun hnx => ?_)
  clear hK K hnx
  try simp only [Act.put, List.setIfInBounds_toArray, List.set_cons_zero, List.set_cons_succ]
  refine done (by kernel_rfl) ?_
  have hr : (PS.toList == QS.toList) = r := by
    rw [HS.out.1, HS.out.2, Hr.out]
    exact req_sm HK.out.1 HK.out.2 HD.out.2.1.1 HD.out.2.2.1.1 A1.out.1 A2.out.1 HON.out.1 HON.out.2
  have c1 := HC.out.1 v3 y3
  have c2 := HC.out.2 v3 y3
  have Q := Lib.hid (HW.out.trans (y3.mono HW.out.size))
  have hrr : (r == r) = true := by simp
  clear hS0 y1 y2 y3 cl p0 p1 q0 q1
  go_wp2_with fail
  go_ret
  exact ⟨rfl, Q.out⟩
end Go.Proofs.Ytfidmjpjfigmcaa.Cm
