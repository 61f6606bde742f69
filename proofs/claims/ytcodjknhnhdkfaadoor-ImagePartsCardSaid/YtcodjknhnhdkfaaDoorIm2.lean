
/- jobs as bytes: PutJob -/
import Derived.Test.YtcodjknhnhdkfaaDoorIm1
import Derived.Test.YtcodjknhnhdkfaaDoorImP
namespace Go.Proofs.YtcodjknhnhdkfaaDoor.Im
open Go.RowKit Go.Lib Wn Rf By Cm
set_option linter.unusedVariables false
set_option maxRecDepth 20000
theorem spec_len (x : Sp.Spc) (hwf : x.wf) (hm : x.med) : (Sp.specB x).length ≤ 25000 := by
  obtain ⟨nm, tn, pr, dl, a, n, c, ds, bs, cp, at', ls, cr, ct⟩ := x
  obtain ⟨w2, w3, w5, w6, w7, w8, w10⟩ := hwf
  obtain ⟨fd, f0, f1, fn, f9, fr⟩ := hm
  simp only at w2 w3 w5 w6 w7 w8 w10 fd f0 f1 fn f9 fr
  have hu : U64 n := by unfold U64; omega
  have hul : (uvarint n).length ≤ 10 := uvarint_length64 hu
  unfold Sp.specB Sp.headB Sp.tailB
  simp only [List.length_append]
  have a0 := Sp.text_lenm (s := nm) (by omega)
  have a1 := Sp.text_lenm (s := tn) (by omega)
  have a9 := Sp.text_lenm (s := cr) (by omega)
  have b2 := Sp.zz_len w2
  have b3 := Sp.zz_len w3
  have b5 := Sp.zz_len w5
  have b6 := Sp.zz_len w6
  have b7 := Sp.zz_len w7
  have b8 := Sp.zz_len w8
  have b10 := Sp.zz_len w10
  omega
theorem job_len (j : Jb) (hwf : j.wf) (hm : j.med) : (jobB j).length ≤ 27000 := by
  have h1 := spec_len j.sp hwf.1 hm.1
  obtain ⟨_, w1, w2, w3, w4, w5, w6, w7, w8, w9⟩ := hwf
  unfold jobB restB
  simp only [List.length_append]
  have a5 := Sp.text_lenm (s := j.wk) hm.2
  have b1 := Sp.zz_len w1
  have b2 := Sp.zz_len w2
  have b3 : (uvarint j.tk).length ≤ 10 := uvarint_length64 w3
  have b4 := Sp.zz_len w4
  have b5 := Sp.zz_len w5
  have b6 : (uvarint j.od).length ≤ 10 := uvarint_length64 w6
  have b7 := Sp.zz_len w7
  have b8 := Sp.zz_len w8
  have b9 := Sp.zz_len w9
  omega
set_option maxHeartbeats 4000000 in
theorem putJob_any (B pb : Nat) (j : Jb) (M0 : List UInt8) (w : World) (hd : Jd w j) (ha : Typed w j) (hwf : j.wf) (hm : j.med) (hpb : pb < B) (hB : B ≤ w.heap.size) (hw : Wr B w pb M0) (hlen : M0.length ≤ 500000) :
    Calls Tryd.prog 20 #[.pointer (some ⟨pb, 0, none⟩), .agg j.cs.toArray] w (Put1 B pb (M0 ++ jobB j) w) := by
  have hres : M0 ++ jobB j = M0 ++ Sp.specB j.sp ++ Sp.zz j.st ++ Sp.zz j.du ++ uvarint j.tk ++ Sp.zz j.fl ++ Sp.zz j.rs ++ textB j.wk ++ uvarint j.od ++ Sp.zz j.cr ++ Sp.zz j.rn ++ Sp.zz j.ms := by
    unfold jobB restB
    simp only [List.append_assoc]
  rw [hres]
  clear hres
  obtain ⟨C, hC⟩ : ∃ C, C = j.cs.toArray := ⟨_, rfl⟩
  rw [← hC]
  obtain ⟨V, hV⟩ : ∃ V, V = w.alloc (.cells C 52) := ⟨_, rfl⟩
  have hb : Below w.heap.size w V := by rw [hV]; exact (Below.refl _ w).alloc (Nat.le_refl _) _
  have hs : V.heap.size = w.heap.size + 1 := by rw [hV]; simp
  have hx0 : V.heap[w.heap.size]? = some (.cells C 52 (0, 0)) := by rw [hV]; exact heap_alloc_new w _
  have hpw : pb < w.heap.size := by omega
  have hw0 : Wr B V pb M0 := hw.below hb hpw (fun k hk => hk)
  have hF0 : Fr B pb w V := Fr.ofBelow hb hB
  have hdV : Sp.Dp V j.sp.a j.sp.n j.sp.ds := hd.old hb
  have HC := Lib.hid (spPutT B pb j.sp M0 V hdV (ha.old hb) hwf.1 hm.1 hpb (by omega) hw0 (by omega))
  have hr0 : V.rangeAt w.heap.size 0 j.sp.cells.toList := fun i v hv => by
    have hi : i < j.sp.cells.toList.length := (List.getElem?_eq_some_iff.1 hv).1
    rw [cell_of_row V _ _ _ _ _ hx0, Nat.zero_add, hC]
    simp only [Jb.cs, List.getElem?_toArray]
    rw [List.getElem?_append_left hi]
    exact hv
  have hi0 : (Tryd.prog.info? 50).map (·.size) = some j.sp.cells.toList.length := info_spec21
  have hbo := run_box
  have hsl := spec_len j.sp hwf.1 hm.1
  obtain ⟨_, w1, w2, w3, w4, w5, w6, w7, w8, w9⟩ := hwf
  have hwk := hm.2
  have K := Lib.hid (And.intro hC (And.intro hF0 (And.intro hx0 (And.intro hs (And.intro hpb hB)))))
  clear hb hs hx0 hw0 hF0 hdV hd ha hm hw hC hB hpb
  go_enter Tryd.func20, Tryd.ntmps20
  go_upto_region 1 with fail
  rw [← hV]
  have HV := Lib.hid hV
  clear hV
  go_wp2_with (refine wpList_load_mid rfl 50 _ rfl w.heap.size 0 rfl j.sp.cells.toList _ hr0 Tryd.underlying50 rfl hi0 ?_)
  refine HC.out.mono ?_
  rintro e W0 ⟨rfl, hw1, hf1⟩
  clear HC hr0 hi0
  obtain ⟨hC, hF0, hx0, hs, hpb, hB⟩ := K.out
  obtain ⟨M1, hM1⟩ : ∃ M, M = M0 ++ Sp.specB j.sp := ⟨_, rfl⟩
  rw [← hM1] at hw1
  have g0 : M1.length ≤ 525000 := by rw [hM1, List.length_append]; omega
  have hx := old_fr hf1 hx0 (by decide) (by omega)
  have R0 := Lib.hid (And.intro (hF0.trans hf1) (And.intro hx (And.intro hw1 (And.intro hM1 (show B ≤ W0.heap.size by have := hf1.size; omega)))))
  clear hC hF0 hx0 hw1 hf1 hM1 hx hs hpb hB
  have HC0 := Lib.hid (int_w B pb j.st M1 W0 w1 K.out.2.2.2.2.1 R0.out.2.2.2.2 R0.out.2.2.1 (by omega))
  have c0 := (cellj R0.out.2.1 (i := 11) (v := .int .i64 j.st) (by rw [K.out.1]; rfl)).1
  go_wp2_with fail
  refine HC0.out.mono ?_
  rintro e W1 ⟨rfl, hw1, hf1⟩
  clear HC0 c0
  obtain ⟨M2, hM1⟩ : ∃ M, M = M1 ++ Sp.zz j.st := ⟨_, rfl⟩
  rw [← hM1] at hw1
  have g1 : M2.length ≤ 525010 := by
    rw [hM1, List.length_append]
    have := Sp.zz_len w1
    omega
  have hx := old_fr hf1 R0.out.2.1 (by decide) (by have := K.out.2.2.2.2.1; have := K.out.2.2.2.2.2; omega)
  have R1 := Lib.hid (And.intro (R0.out.1.trans hf1) (And.intro hx (And.intro hw1 (And.intro hM1 (show B ≤ W1.heap.size by have := hf1.size; have := R0.out.2.2.2.2; omega)))))
  clear hw1 hf1 hM1 hx
  have HC1 := Lib.hid (int_w B pb j.du M2 W1 w2 K.out.2.2.2.2.1 R1.out.2.2.2.2 R1.out.2.2.1 (by omega))
  have c1 := (cellj R1.out.2.1 (i := 12) (v := .int .i64 j.du) (by rw [K.out.1]; rfl)).1
  go_wp2_with fail
  refine HC1.out.mono ?_
  rintro e W2 ⟨rfl, hw1, hf1⟩
  clear HC1 c1
  obtain ⟨M3, hM1⟩ : ∃ M, M = M2 ++ Sp.zz j.du := ⟨_, rfl⟩
  rw [← hM1] at hw1
  have g2 : M3.length ≤ 525020 := by
    rw [hM1, List.length_append]
    have := Sp.zz_len w2
    omega
  have hx := old_fr hf1 R1.out.2.1 (by decide) (by have := K.out.2.2.2.2.1; have := K.out.2.2.2.2.2; omega)
  have R2 := Lib.hid (And.intro (R1.out.1.trans hf1) (And.intro hx (And.intro hw1 (And.intro hM1 (show B ≤ W2.heap.size by have := hf1.size; have := R1.out.2.2.2.2; omega)))))
  clear hw1 hf1 hM1 hx
  have HC2 := Lib.hid (num_w B pb j.tk M3 W2 w3 K.out.2.2.2.2.1 R2.out.2.2.2.2 R2.out.2.2.1 (by omega))
  have c2 := (cellj R2.out.2.1 (i := 13) (v := .int .u64 j.tk) (by rw [K.out.1]; rfl)).1
  go_wp2_with fail
  refine HC2.out.mono ?_
  rintro e W3 ⟨rfl, hw1, hf1⟩
  clear HC2 c2
  obtain ⟨M4, hM1⟩ : ∃ M, M = M3 ++ uvarint j.tk := ⟨_, rfl⟩
  rw [← hM1] at hw1
  have g3 : M4.length ≤ 525030 := by
    rw [hM1, List.length_append]
    have : (uvarint j.tk).length ≤ 10 := uvarint_length64 w3
    omega
  have hx := old_fr hf1 R2.out.2.1 (by decide) (by have := K.out.2.2.2.2.1; have := K.out.2.2.2.2.2; omega)
  have R3 := Lib.hid (And.intro (R2.out.1.trans hf1) (And.intro hx (And.intro hw1 (And.intro hM1 (show B ≤ W3.heap.size by have := hf1.size; have := R2.out.2.2.2.2; omega)))))
  clear hw1 hf1 hM1 hx
  have HC3 := Lib.hid (int_w B pb j.fl M4 W3 w4 K.out.2.2.2.2.1 R3.out.2.2.2.2 R3.out.2.2.1 (by omega))
  have c3 := (cellj R3.out.2.1 (i := 14) (v := .int .i64 j.fl) (by rw [K.out.1]; rfl)).1
  go_wp2_with fail
  refine HC3.out.mono ?_
  rintro e W4 ⟨rfl, hw1, hf1⟩
  clear HC3 c3
  obtain ⟨M5, hM1⟩ : ∃ M, M = M4 ++ Sp.zz j.fl := ⟨_, rfl⟩
  rw [← hM1] at hw1
  have g4 : M5.length ≤ 525040 := by
    rw [hM1, List.length_append]
    have := Sp.zz_len w4
    omega
  have hx := old_fr hf1 R3.out.2.1 (by decide) (by have := K.out.2.2.2.2.1; have := K.out.2.2.2.2.2; omega)
  have R4 := Lib.hid (And.intro (R3.out.1.trans hf1) (And.intro hx (And.intro hw1 (And.intro hM1 (show B ≤ W4.heap.size by have := hf1.size; have := R3.out.2.2.2.2; omega)))))
  clear hw1 hf1 hM1 hx
  have HC4 := Lib.hid (int_w B pb j.rs M5 W4 w5 K.out.2.2.2.2.1 R4.out.2.2.2.2 R4.out.2.2.1 (by omega))
  have c4 := (cellj R4.out.2.1 (i := 15) (v := .int .i64 j.rs) (by rw [K.out.1]; rfl)).1
  go_wp2_with fail
  refine HC4.out.mono ?_
  rintro e W5 ⟨rfl, hw1, hf1⟩
  clear HC4 c4
  obtain ⟨M6, hM1⟩ : ∃ M, M = M5 ++ Sp.zz j.rs := ⟨_, rfl⟩
  rw [← hM1] at hw1
  have g5 : M6.length ≤ 525050 := by
    rw [hM1, List.length_append]
    have := Sp.zz_len w5
    omega
  have hx := old_fr hf1 R4.out.2.1 (by decide) (by have := K.out.2.2.2.2.1; have := K.out.2.2.2.2.2; omega)
  have R5 := Lib.hid (And.intro (R4.out.1.trans hf1) (And.intro hx (And.intro hw1 (And.intro hM1 (show B ≤ W5.heap.size by have := hf1.size; have := R4.out.2.2.2.2; omega)))))
  clear hw1 hf1 hM1 hx
  have HC5 := Lib.hid (text_w B pb j.wk M6 W5 (by omega) K.out.2.2.2.2.1 R5.out.2.2.2.2 R5.out.2.2.1 (by omega))
  have c5 := (cellj R5.out.2.1 (i := 16) (v := .string j.wk) (by rw [K.out.1]; rfl)).1
  go_wp2_with fail
  refine HC5.out.mono ?_
  rintro e W6 ⟨rfl, hw1, hf1⟩
  clear HC5 c5
  obtain ⟨M7, hM1⟩ : ∃ M, M = M6 ++ textB j.wk := ⟨_, rfl⟩
  rw [← hM1] at hw1
  have g6 : M7.length ≤ 526060 := by
    rw [hM1, List.length_append]
    have := Sp.text_lenm (s := j.wk) hwk
    omega
  have hx := old_fr hf1 R5.out.2.1 (by decide) (by have := K.out.2.2.2.2.1; have := K.out.2.2.2.2.2; omega)
  have R6 := Lib.hid (And.intro (R5.out.1.trans hf1) (And.intro hx (And.intro hw1 (And.intro hM1 (show B ≤ W6.heap.size by have := hf1.size; have := R5.out.2.2.2.2; omega)))))
  clear hw1 hf1 hM1 hx
  have HC6 := Lib.hid (num_w B pb j.od M7 W6 w6 K.out.2.2.2.2.1 R6.out.2.2.2.2 R6.out.2.2.1 (by omega))
  have c6 := (cellj R6.out.2.1 (i := 17) (v := .int .u64 j.od) (by rw [K.out.1]; rfl)).1
  go_wp2_with fail
  refine HC6.out.mono ?_
  rintro e W7 ⟨rfl, hw1, hf1⟩
  clear HC6 c6
  obtain ⟨M8, hM1⟩ : ∃ M, M = M7 ++ uvarint j.od := ⟨_, rfl⟩
  rw [← hM1] at hw1
  have g7 : M8.length ≤ 526070 := by
    rw [hM1, List.length_append]
    have : (uvarint j.od).length ≤ 10 := uvarint_length64 w6
    omega
  have hx := old_fr hf1 R6.out.2.1 (by decide) (by have := K.out.2.2.2.2.1; have := K.out.2.2.2.2.2; omega)
  have R7 := Lib.hid (And.intro (R6.out.1.trans hf1) (And.intro hx (And.intro hw1 (And.intro hM1 (show B ≤ W7.heap.size by have := hf1.size; have := R6.out.2.2.2.2; omega)))))
  clear hw1 hf1 hM1 hx
  have HC7 := Lib.hid (int_w B pb j.cr M8 W7 w7 K.out.2.2.2.2.1 R7.out.2.2.2.2 R7.out.2.2.1 (by omega))
  have c7 := (cellj R7.out.2.1 (i := 18) (v := .int .i64 j.cr) (by rw [K.out.1]; rfl)).1
  go_wp2_with fail
  refine HC7.out.mono ?_
  rintro e W8 ⟨rfl, hw1, hf1⟩
  clear HC7 c7
  obtain ⟨M9, hM1⟩ : ∃ M, M = M8 ++ Sp.zz j.cr := ⟨_, rfl⟩
  rw [← hM1] at hw1
  have g8 : M9.length ≤ 526080 := by
    rw [hM1, List.length_append]
    have := Sp.zz_len w7
    omega
  have hx := old_fr hf1 R7.out.2.1 (by decide) (by have := K.out.2.2.2.2.1; have := K.out.2.2.2.2.2; omega)
  have R8 := Lib.hid (And.intro (R7.out.1.trans hf1) (And.intro hx (And.intro hw1 (And.intro hM1 (show B ≤ W8.heap.size by have := hf1.size; have := R7.out.2.2.2.2; omega)))))
  clear hw1 hf1 hM1 hx
  have HC8 := Lib.hid (int_w B pb j.rn M9 W8 w8 K.out.2.2.2.2.1 R8.out.2.2.2.2 R8.out.2.2.1 (by omega))
  have c8 := (cellj R8.out.2.1 (i := 19) (v := .int .i64 j.rn) (by rw [K.out.1]; rfl)).1
  go_wp2_with fail
  refine HC8.out.mono ?_
  rintro e W9 ⟨rfl, hw1, hf1⟩
  clear HC8 c8
  obtain ⟨M10, hM1⟩ : ∃ M, M = M9 ++ Sp.zz j.rn := ⟨_, rfl⟩
  rw [← hM1] at hw1
  have g9 : M10.length ≤ 526090 := by
    rw [hM1, List.length_append]
    have := Sp.zz_len w8
    omega
  have hx := old_fr hf1 R8.out.2.1 (by decide) (by have := K.out.2.2.2.2.1; have := K.out.2.2.2.2.2; omega)
  have R9 := Lib.hid (And.intro (R8.out.1.trans hf1) (And.intro hx (And.intro hw1 (And.intro hM1 (show B ≤ W9.heap.size by have := hf1.size; have := R8.out.2.2.2.2; omega)))))
  clear hw1 hf1 hM1 hx
  have HC9 := Lib.hid (int_w B pb j.ms M10 W9 w9 K.out.2.2.2.2.1 R9.out.2.2.2.2 R9.out.2.2.1 (by omega))
  have c9 := (cellj R9.out.2.1 (i := 20) (v := .int .i64 j.ms) (by rw [K.out.1]; rfl)).1
  go_wp2_with fail
  refine HC9.out.mono ?_
  rintro e W10 ⟨rfl, hw1, hf1⟩
  clear HC9 c9
  obtain ⟨M11, hM1⟩ : ∃ M, M = M10 ++ Sp.zz j.ms := ⟨_, rfl⟩
  rw [← hM1] at hw1
  have g10 : M11.length ≤ 526100 := by
    rw [hM1, List.length_append]
    have := Sp.zz_len w9
    omega
  have hx := old_fr hf1 R9.out.2.1 (by decide) (by have := K.out.2.2.2.2.1; have := K.out.2.2.2.2.2; omega)
  have R10 := Lib.hid (And.intro (R9.out.1.trans hf1) (And.intro hx (And.intro hw1 (And.intro hM1 (show B ≤ W10.heap.size by have := hf1.size; have := R9.out.2.2.2.2; omega)))))
  clear hw1 hf1 hM1 hx
  go_wp2_with fail
  go_end0
  refine ⟨rfl, ?_, R10.out.1⟩
  rw [← R0.out.2.2.2.1, ← R1.out.2.2.2.1, ← R2.out.2.2.2.1, ← R3.out.2.2.2.1, ← R4.out.2.2.2.1, ← R5.out.2.2.2.1, ← R6.out.2.2.2.1, ← R7.out.2.2.2.1, ← R8.out.2.2.2.1, ← R9.out.2.2.2.1, ← R10.out.2.2.2.1]
  exact R10.out.2.2.1
end Go.Proofs.YtcodjknhnhdkfaaDoor.Im
