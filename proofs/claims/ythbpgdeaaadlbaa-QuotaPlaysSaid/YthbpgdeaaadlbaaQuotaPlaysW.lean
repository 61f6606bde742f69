
/- QuotaPlays, walked -/
import Derived.Test.YthbpgdeaaadlbaaQtN
import Derived.Test.YthbpgdeaaadlbaaQtPa
namespace Go.Proofs.Ythbpgdeaaadlbaa.Qt
open Go.RowKit Go.Lib Go.Maps Go.WideElems Go.ChangeMaps Go.MapKept Go.Sort Hp Rg Ht
set_option linter.unusedVariables false
attribute [local go_sem] Oper.semAt_some
set_option maxRecDepth 20000
set_option maxHeartbeats 16000000 in
theorem plays_any (w : World) (ea : Int) (hea : -9223372036854775808 ≤ ea ∧ ea ≤ 9223372036854775807) (a : Option Addr) (n c : Nat) (hi : QtPa.InA w a n c) :
    Calls Try.prog 3 #[.int .i64 ea, .slice a n c] w fun e w' => e = .returned (.bool true) ∧ Below w.heap.size w w' := by
  have hmix : Try.prog.follows .mixedOrders = true := by kernel_rfl
  have hLV := fun W => lives13_any W
  have hmk := @run_makeMap Try.prog
  obtain ⟨V, hV⟩ : ∃ V, V = (w.alloc (.cells #[.int .i64 ea] 3)).alloc (.cells #[.bool false] 4) := ⟨_, rfl⟩
  have HVf : (Below w.heap.size w V ∧ V.heap[w.heap.size]? = some (.cells #[.int .i64 ea] 3 (0, 0)) ∧ V.heap[w.heap.size + 1]? = some (.cells #[.bool false] 4 (0, 0)) ∧ V.heap.size = w.heap.size + 2) := by
    rw [hV]
    have h1 := MapKept.heap_alloc w (.cells #[.int .i64 ea] 3)
    have h2 := MapKept.heap_alloc (w.alloc (.cells #[.int .i64 ea] 3)) (.cells #[.bool false] 4)
    refine ⟨((Below.refl _ w).alloc (Nat.le_refl _) _).alloc (by simp) _, (Below.heap_alloc _ _ _ (by simp)).trans h1.1, ?_, by simp⟩
    have := h2.1
    rwa [World.size_alloc] at this
  have HV := Lib.hid HVf
  clear HVf
  by_cases hbig : 80 < n
  · have hb2 : (80 : Int) < ((n : Nat) : Int) := by omega
    clear hi hbig hea
    refine (callsIn_wide (n := 5)).1 ?_
    refine callsIn_of_wp_marks Try.func3 rfl trivial ?_ rfl
    simp only [Try.ntmps3, List.size_toArray, List.length_cons, List.length_nil, Nat.reduceAdd, Nat.reduceSub, Array.replicate_succ, Array.replicate_zero, List.push_toArray, List.append_toArray, List.nil_append, List.cons_append]
    refine wpIn_wide.2 ?_
    go_wp2_with fail
    rw [← hV]
    clear hV
    refine (hLV _).mono ?_
    rintro e w1 ⟨rfl, b1⟩
    have r1 : w1.heap[w.heap.size]? = some (.cells #[.int .i64 ea] 3 (0, 0)) := (b1.block _ (by have := HV.out.2.2.2; omega)).trans HV.out.2.1
    have s1 : w1.heap[w.heap.size + 1]? = some (.cells #[.bool false] 4 (0, 0)) := (b1.block _ (by have := HV.out.2.2.2; omega)).trans HV.out.2.2.1
    obtain ⟨cx, fx⟩ := c1_of s1
    have H1 := Lib.hid (And.intro b1 s1)
    clear b1 s1 r1 cx fx
    go_wp2_with fail
    refine (hLV _).mono ?_
    rintro e w2 ⟨rfl, b2⟩
    have s2 : w2.heap[w.heap.size + 1]? = some (.cells #[.bool false] 4 (0, 0)) := (b2.block _ (Array.getElem?_eq_some_iff.1 H1.out.2).1).trans H1.out.2
    obtain ⟨cx, fx⟩ := c1_of s2
    have H2 := Lib.hid b2
    clear b2 s2
    go_wp2_with fail
    refine leaveC0 rfl rfl rfl (World.cell?_setCell_same _ _ _ cx) ⟨rfl, ?_⟩
    have z := HV.out.2.2.2
    have z1 := H1.out.1.size
    exact (HV.out.1.trans ((H1.out.1.mono (by omega)).trans (H2.out.mono (by omega)))).setCell (by show _ ≤ w.heap.size + 1; omega) _
  have hn1 : ((n : Nat) : Int) ≤ 80 := by omega
  by_cases hbad : ¬ (0 ≤ ea ∧ ea ≤ 128)
  · have hN := fun W => New_no ea hbad W
    clear hi hbig
    by_cases hneg : ea < 0
    all_goals
      first | (have hx2 : 128 < ea := by omega) | (have hx2 : True := trivial)
      first | (have hx3 : 0 ≤ ea := by omega) | (have hx3 : True := trivial)
      clear hbad hea
      refine (callsIn_wide (n := 5)).1 ?_
      refine callsIn_of_wp_marks Try.func3 rfl trivial ?_ rfl
      simp only [Try.ntmps3, List.size_toArray, List.length_cons, List.length_nil, Nat.reduceAdd, Nat.reduceSub, Array.replicate_succ, Array.replicate_zero, List.push_toArray, List.append_toArray, List.nil_append, List.cons_append]
      refine wpIn_wide.2 ?_
      go_wp2_with fail
      rw [← hV]
      clear hV
      refine (hLV _).mono ?_
      rintro e w1 ⟨rfl, b1⟩
      have r1 : w1.heap[w.heap.size]? = some (.cells #[.int .i64 ea] 3 (0, 0)) := (b1.block _ (by have := HV.out.2.2.2; omega)).trans HV.out.2.1
      have s1 : w1.heap[w.heap.size + 1]? = some (.cells #[.bool false] 4 (0, 0)) := (b1.block _ (by have := HV.out.2.2.2; omega)).trans HV.out.2.2.1
      obtain ⟨cx, fx⟩ := c1_of s1
      obtain ⟨cy, fy⟩ := c1_of r1
      have H1 := Lib.hid b1
      clear b1 s1 r1
      go_wp2_with fail
      refine (hN _).mono ?_
      rintro e w2 ⟨rfl, rfl⟩
      go_wp2_with fail
      refine leaveC0 rfl rfl rfl (World.cell?_setCell_same _ _ _ cx) ⟨rfl, ?_⟩
      have z := HV.out.2.2.2
      exact (HV.out.1.trans (H1.out.mono (by omega))).setCell (by show _ ≤ w.heap.size + 1; omega) _
  have hok : 0 ≤ ea ∧ ea ≤ 128 := Decidable.not_not.1 hbad
  have h0 : 0 ≤ ea := hok.1
  have h1 : ea ≤ 128 := hok.2
  have hN := fun W => New_ok ea hok W
  have HB := Lib.hid (And.intro hi (show n ≤ 80 by omega))
  clear hbad hea hbig hok hi
  refine (callsIn_wide (n := 5)).1 ?_
  refine callsIn_of_wp_marks Try.func3 rfl trivial ?_ rfl
  simp only [Try.ntmps3, List.size_toArray, List.length_cons, List.length_nil, Nat.reduceAdd, Nat.reduceSub, Array.replicate_succ, Array.replicate_zero, List.push_toArray, List.append_toArray, List.nil_append, List.cons_append]
  refine wpIn_wide.2 ?_
  go_wp2_with fail
  rw [← hV]
  clear hV
  refine (hLV _).mono ?_
  rintro e w1 ⟨rfl, b1⟩
  have r1 : w1.heap[w.heap.size]? = some (.cells #[.int .i64 ea] 3 (0, 0)) := (b1.block _ (by have := HV.out.2.2.2; omega)).trans HV.out.2.1
  have s1 : w1.heap[w.heap.size + 1]? = some (.cells #[.bool false] 4 (0, 0)) := (b1.block _ (by have := HV.out.2.2.2; omega)).trans HV.out.2.2.1
  obtain ⟨cy, fy⟩ := c1_of r1
  have H1 := Lib.hid (And.intro b1 (And.intro s1 r1))
  clear b1 s1 r1
  go_wp2_with fail
  refine (hN _).mono ?_
  rintro e w2 ⟨rfl, q2, b2⟩
  have r2 : w2.heap[w.heap.size]? = some (.cells #[.int .i64 ea] 3 (0, 0)) := (b2.block _ (Array.getElem?_eq_some_iff.1 H1.out.2.2).1).trans H1.out.2.2
  obtain ⟨cx, fx⟩ := c1_of r2
  have H2 := Lib.hid (And.intro q2 (And.intro b2 r2))
  clear q2 b2 r2 cy fy hN hLV
  go_wp2_with fail
  obtain ⟨W3, hW3⟩ : ∃ X, X = ((((w2.alloc (.cells #[.slice none 0 0] 28)).alloc (.map #[] 0)).alloc (.map #[] 0)).alloc (.cells #[.map (some (w2.heap.size + 1))] 29)).alloc (.cells #[.map (some (w2.heap.size + 1 + 1))] 29) := ⟨_, rfl⟩
  rw [← hW3]
  have s2 : w2.heap[w.heap.size + 1]? = some (.cells #[.bool false] 4 (0, 0)) := (H2.out.2.1.block _ (Array.getElem?_eq_some_iff.1 H1.out.2.1).1).trans H1.out.2.1
  have hst := St.start (w := w) H2.out.1 H2.out.2.2 s2 (by
    have z0 := HV.out.2.2.2
    have z1 := H1.out.1.size
    have z2 := H2.out.2.1.size
    have z3 := (Array.getElem?_eq_some_iff.1 s2).1
    omega) (HV.out.1.trans ((H1.out.1.mono (by have z0 := HV.out.2.2.2; omega)).trans (H2.out.2.1.mono (by have z0 := HV.out.2.2.2; have z1 := H1.out.1.size; omega)))) hW3
  clear hW3 s2 cx fx hmk
  obtain ⟨B, hB⟩ : ∃ b, b = w2.heap.size + 1 + 1 + 1 + 1 + 1 := ⟨_, rfl⟩
  obtain ⟨b9, h9⟩ : ∃ b, b = w2.heap.size + 1 + 1 + 1 + 1 := ⟨_, rfl⟩
  obtain ⟨b8, h8⟩ : ∃ b, b = w2.heap.size + 1 + 1 + 1 := ⟨_, rfl⟩
  obtain ⟨bM, hbM⟩ : ∃ b, b = w2.heap.size + 1 + 1 := ⟨_, rfl⟩
  obtain ⟨bH, hbH⟩ : ∃ b, b = w2.heap.size + 1 := ⟨_, rfl⟩
  rw [← hB, ← h9, ← h8, ← hbM, ← hbH] at hst
  rw [← h9, ← h8]
  obtain ⟨b7, h7⟩ : ∃ b, b = w2.heap.size := ⟨_, rfl⟩
  rw [← h7] at hst ⊢
  obtain ⟨b4, h4⟩ : ∃ b, b = w.heap.size + 1 := ⟨_, rfl⟩
  rw [← h4] at hst ⊢
  obtain ⟨b2, hb2⟩ : ∃ b, b = w.heap.size := ⟨_, rfl⟩
  obtain ⟨lb, hlb⟩ : ∃ b, b = w1.heap.size := ⟨_, rfl⟩
  rw [← hlb] at hst ⊢
  obtain ⟨zw, hzw⟩ : ∃ b, b = w.heap.size := ⟨_, rfl⟩
  have H0 := Lib.hid hst
  rw [← hb2] at H0 ⊢
  clear hst hB h9 h8 hbM hbH h7 h4 hb2 hlb hzw H1 H2 HV
  refine wp_loop (PI w B lb ea b2 b4 b7 bH bM b8 b9 a n c) (fun a' _ => PM n a') ?hstart ?hround
  case hstart => exact PI.mk' _ 0 (tl := []) ⟨Nat.zero_le _, Nat.le_refl _, Nat.le_refl _, Nat.le_refl _, H0.out, Lo.nil⟩ (by kernel_rfl)
  case hround =>
    clear H0
    rintro a1 wr ⟨x, j, v, tl, M, H, f, g, nH, nM, ⟨hjn, hjH, hjM, hjt, st, lo⟩, rfl⟩
    have hj0 : (0 : Int) ≤ ((j : Nat) : Int) := by omega
    by_cases hjx : j < n
    rotate_left
    · have hjc : ((n : Nat) : Int) ≤ ((j : Nat) : Int) := by omega
      obtain ⟨U, hU⟩ : ∃ U, U = wr := ⟨_, rfl⟩
      rw [← hU] at st ⊢
      clear hU
      have hj8 : j ≤ 80 := by have := HB.out.2; omega
      obtain ⟨W0, cn0, hrun, hrg, hgr, hsz⟩ := st.mH.range kind
      have k8 := (c1_of st.e8).1
      have hb0 : Below U.heap.size U W0 := (Below.refl _ U).grown hgr (Nat.le_refl _) (fun j hj => by cases hj)
      have hb8 : b8 < U.heap.size := by have := st.ord; omega
      have HX := Lib.hid (And.intro st (And.intro lo (And.intro hj8 (And.intro hjH hb8))))
      obtain ⟨r, hr⟩ : ∃ r, r = U.heap.size := ⟨_, rfl⟩
      rw [← hr] at hrun hrg hb0
      have HRr := Lib.hid hr
      have H0 := Lib.hid (And.intro hrg hb0)
      clear st lo hjn hjH hjM hjt hrg hgr hb0 hsz hr hb8 hj8
      go_wp2_with fail
      try go_frame
      go_loopw [18] (fun cv X => ∃ es cn, cv = .int .i64 ((Qt.cnt f es : Nat) : Int) ∧ Mv.Rgs Try.prog 9 ek wk X bH r (vf f) es cn ∧ Below r U X) (fun _ X => X.rangeLeft bH r)
      case atStart => exact ⟨[], cn0, rfl, H0.out.1, H0.out.2⟩
      case round =>
        obtain ⟨es, cn, hcv, hrg, hbX⟩ := hrel
        subst hcv
        have HL := Lib.hid hrg.left_eq
        have hes : es.length ≤ 80 := by
          obtain ⟨l, l1, l2, l3⟩ := Mv.Mp.keys kind HX.out.1.mH
          have := Mv.len_sub es l hrg.nodup fun k hk => (l3 k).2 (hrg.mem hk)
          have := HX.out.2.2.1
          have := HX.out.2.2.2.1
          omega
        have HP := Lib.hid (And.intro hrg (And.intro hbX hes))
        obtain ⟨cc, hcc⟩ : ∃ cc, cc = Qt.cnt f es := ⟨_, rfl⟩
        rw [← hcc]
        have hw1 : wrap64 (((cc : Nat) : Int) + 1) = ((cc + 1 : Nat) : Int) := by have := cnt_le f es; unfold wrap64; omega
        have HC := Lib.hid hcc
        clear hbX hes hcc
        go_wp2_with (first
          | (at_next; refine Mv.wpList_nextQ kind _ rfl _ rfl bH r (vf f) es cn rfl hrg ?_ ?_)
          | go_in)
        · intro hdone
          have sX := HX.out.1.old (Y := wr) (by rw [← HRr.out]; exact HP.out.2.1)
          obtain ⟨X1, hX1⟩ : ∃ X1, X1 = (wr.alloc (.cells #[.string ⟨#[]⟩] 9)).alloc (.cells #[.int .i64 0] 3) := ⟨_, rfl⟩
          have bX1 : Below wr.heap.size wr X1 := by rw [hX1]; exact ((Below.refl _ _).alloc (Nat.le_refl _) _).alloc (by simp) _
          have zX1 : X1.heap.size = wr.heap.size + 2 := by rw [hX1]; simp
          have r21 : X1.heap[wr.heap.size]? = some (.cells #[.string ⟨#[]⟩] 9 (0, 0)) := by rw [hX1]; exact (Below.heap_alloc _ _ _ (by simp)).trans (MapKept.heap_alloc wr _).1
          have r22 : X1.heap[wr.heap.size + 1]? = some (.cells #[.int .i64 0] 3 (0, 0)) := by
            rw [hX1]
            have := (MapKept.heap_alloc (wr.alloc (.cells #[.string ⟨#[]⟩] 9)) (.cells #[.int .i64 0] 3)).1
            rwa [World.size_alloc] at this
          have sX1 := sX.old bX1
          obtain ⟨S, q1, q2⟩ := sX1.q
          have hAll := All_any q1 (by have := HX.out.2.2.1; omega)
          have HE := Lib.hid (And.intro sX1 (And.intro r21 (And.intro r22 (And.intro zX1 (And.intro hdone sX.ord)))))
          clear sX bX1 zX1 r21 r22 sX1 q1 q2 hdone hrg k8 hrun hw1
          go_wp2_with fail
          rw [← hX1]
          obtain ⟨zz, hzz⟩ : ∃ zz, zz = wr.heap.size := ⟨_, rfl⟩
          rw [← hzz] at HE ⊢
          clear hX1
          have HZ := Lib.hid hzz
          clear hzz
          refine hAll.mono ?_
          rintro e X2 ⟨b3, b4', ls, rfl, t, b12⟩
          have hit := all_iter (5 - 1) zz (zz + 2) X1.heap.size b3 b4' X2 t (by have := HE.out.2.2.2.1; omega)
          have hz12 := b12.size
          have ho : zz + 2 ≤ X2.heap.size ∧ b4 < zz ∧ b8 < zz ∧ bH < zz ∧ w.heap.size ≤ zz := by
            have := HE.out.2.2.2.1
            have := HE.out.2.2.2.2.2
            have := HZ.out
            omega
          have s2 := HE.out.1.old b12
          have i0 : IE w zz b4 b8 bH nH X2.heap.size f ls 0 X2 := ⟨(b12.block zz (by have := HE.out.2.2.2.1; omega)).trans HE.out.2.1, (b12.block (zz + 1) (by have := HE.out.2.2.2.1; omega)).trans HE.out.2.2.1, s2.e4, s2.e8, s2.mH, s2.below, Nat.le_refl _⟩
          have HF := Lib.hid (And.intro t (And.intro ho (And.intro s2 i0)))
          clear hAll b12 hz12 ho s2 i0 t
          go_wp2_with fail
          refine (wpIn_wide (n := 5)).1 ?_
          refine range_exit (br := false) rfl (by omega) (gf := 21) (lb := #[.pointer (some ⟨b4', 0, none⟩), .pointer (some ⟨b3, 0, none⟩)]) rfl trivial (enters_of Try.func21 (by kernel_rfl) rfl)
            (hit.x) (fun _ => rfl) (fun m A => IE w zz b4 b8 bH nH X2.heap.size f ls m A) (fun _ _ _ => False)
            (fun m A A' h e => h.calm e (by have := HF.out.2.1; omega) (by have := HF.out.2.1; omega)) (fun _ _ _ _ h _ => h) (fun _ _ _ h => h.elim)
            HF.out.2.2.2 (fun m x A A' h _ => h) (fun m x A A' _ _ h _ _ => h) ?hround ?hdone (fun _ _ _ _ _ h _ => h.elim)
          case hround =>
            rintro lp m p A hlB ⟨rr, hlr⟩ hI ⟨hm, hp⟩
            dsimp only [enc1]
            have hpi : p ∈ ls := by rw [hp]; exact getD_in ls hm
            have hpw := ((HF.out.1.ks.2 p).1 hpi).1
            have hpy : 0 < has H p := by
              have h1 := ((HF.out.1.ks.2 p).1 hpi).2
              rw [HF.out.2.2.1.pos p] at h1
              simpa using h1
            have hfh : (f p).getD 0 = has H p := HX.out.2.1.hs p hpw
            have hlast : m ≠ 0 → ls.getD (m - 1) [] < p := fun h0 => by
              rw [hp, List.getD_eq_getElem?_getD, List.getD_eq_getElem?_getD, List.getElem?_eq_getElem hm, List.getElem?_eq_getElem (show m - 1 < ls.length by omega)]
              exact List.pairwise_iff_getElem.1 HF.out.1.ks.1 (m - 1) m (by omega) hm (by omega)
            obtain ⟨y, hy⟩ : ∃ y, y = has H p := ⟨_, rfl⟩
            rw [← hy] at hpy hfh ⊢
            have HM := Lib.hid (And.intro hm (And.intro hp (And.intro hpw (And.intro hfh hlast))))
            clear hI hlr hm hp hpi hpw hfh hlast hy hit hlB
            gi_wp2_with fail
            refine ⟨Below.refl _ _, ?_⟩
            intro A2 hbut hI2 hG2
            clear hbut hG2
            obtain ⟨c21, f21⟩ := c1_of hI2.1
            obtain ⟨c22, f22⟩ := c1_of hI2.2.1
            have c8 := (c1_of hI2.2.2.2.1).1
            have lk := Qt.look1 hI2.2.2.2.2.1 (Y := A2) rfl HM.out.2.2.1
            rw [HM.out.2.2.2.1] at lk
            have HI2 := Lib.hid hI2
            clear hI2
            have hm6 : ((m : Nat) : Int) ≤ 1000000 := by have := HF.out.1.len; have := HM.out.1; omega
            have hend := fun Z h => ie_end (Z := Z) HI2.out HM.out.2.1 HF.out.2.1.1 HF.out.2.1.2 h
            have HEND := Lib.hid hend
            clear hend
            by_cases hm0 : m = 0
            · subst hm0
              gi_wp2_with fail
              exact HEND.out _ rfl
            · have hlq := leq_str (P := Try.prog) (t := 9) p (ls.getD (m - 1) []) (HM.out.2.2.2.2 hm0) A2
              rw [if_neg hm0] at c21
              have hmp : (0 : Int) < ((m : Nat) : Int) := by omega
              generalize ls.getD (m - 1) [] = lst at hlq c21
              have HM0 := Lib.hid hm0
              clear hm0
              gi_wp2_with fail
              exact HEND.out _ rfl
          case hdone =>
            intro D m2 X hD hS hI hK
            subst hS
            obtain ⟨h1, h2, ⟨rb, h3⟩, h4, h5, h6, h7⟩ := hI
            have hcl : cc = ls.length := by
              rw [HC.out]
              exact cnt_all HX.out.1 HX.out.2.1 HP.out.1.nodup (fun k hk => (HP.out.1.mem hk).1) (fun k hk hs => HE.out.2.2.2.2.1 k hk (by rw [vf_some]; exact hs)) HF.out.1.ks
            subst hcl
            obtain ⟨c22, f22⟩ := c1_of h2
            obtain ⟨c4, f4⟩ := c1_of h3
            have HK := Lib.hid (And.intro h3 (And.intro h6 (And.intro hK (And.intro hD HF.out.2.1))))
            clear h1 h2 h3 h4 h5 h6 h7 hD hK hit
            dsimp only
            go_wp2_with fail
            obtain ⟨h3, h6, hK, hD, ho⟩ := HK.out
            have hne : D ≠ b4 := by omega
            refine leaveC rfl rfl rfl ?_ ?_ (fun X' hbut => ⟨rfl, ?_⟩)
            · rw [heap_setCell_other _ _ _ _ hne]; exact hK
            · exact World.cell?_setCell_same _ _ _ c4
            · exact (h6.setCell (by have := HX.out.1.ord; show _ ≤ b4; omega) _).trans (hbut.below (by omega))
        · rintro ⟨k, v1, X1, cn1, hwk, hfk, hnk, hrg1, hlt1, hg1, hs1⟩ hen
          dsimp only at hen ⊢
          obtain ⟨y, hy, rfl⟩ := vf_int hfk
          have hca := cnt_app f es k
          rw [hy, Option.getD_some, ← HC.out] at hca
          have hb1 : Below r U X1 := HP.out.2.1.grown hg1 (by have := HP.out.2.1.size; have := HRr.out; omega) (fun j hj => by cases hj; exact Nat.le_refl _)
          have HN := Lib.hid (And.intro hrg1 (And.intro hlt1 (And.intro hb1 hca)))
          clear hrg1 hlt1 hb1 hca hfk hnk hg1 hs1 hrg hy
          unfold ek at hen ⊢
          by_cases hp : 0 < y
          · have hca2 : Qt.cnt f (es ++ [k]) = cc + 1 := by rw [HN.out.2.2.2, if_pos hp]
            have HA := Lib.hid hca2
            clear hca2
            go_wp2_with fail
            go_roundw
            case rel => exact ⟨es ++ [k], cn1, by rw [HA.out]; first | rw [hw1] | rfl, HN.out.1, HN.out.2.2.1⟩
            case measure => rw [HN.out.1.left_eq, HL.out]; exact HN.out.2.1
          · have hca2 : Qt.cnt f (es ++ [k]) = cc := by rw [HN.out.2.2.2, if_neg hp]
            have HA := Lib.hid hca2
            have hp' : y ≤ 0 := by omega
            clear hca2 hp
            go_wp2_with fail
            go_roundw
            case rel => exact ⟨es ++ [k], cn1, by rw [HA.out], HN.out.1, HN.out.2.2.1⟩
            case measure => rw [HN.out.1.left_eq, HL.out]; exact HN.out.2.1
    obtain ⟨o1, o2, kd, nn, k, ha, hs, hkd, htk, c1, c2, c3⟩ : ∃ (o1 o2 : Nat) (kd nn : Int) (k : K), a = some ⟨o1, o2, none⟩ ∧ k.length ≤ maxLen ∧ (-9223372036854775808 ≤ kd ∧ kd ≤ 9223372036854775807) ∧ (-9223372036854775808 ≤ nn ∧ nn ≤ 9223372036854775807) ∧
        wr.cell? ⟨o1, o2 + j * 3, none⟩ = some (.int .i64 kd) ∧ wr.cell? ⟨o1, o2 + j * 3 + 1, none⟩ = some (.int .i64 nn) ∧ wr.cell? ⟨o1, o2 + j * 3 + 2, none⟩ = some (.string ⟨k.toArray⟩) := by
      rcases HB.out.1.2.2 with h | ⟨o1, o2, e, h⟩
      · omega
      · obtain ⟨kd, nn, k, h1, h2, h3, h4, h5, h6⟩ := h j hjx
        have e4 := (st.below.cell (World.block_lt_of_cell? _ _ h4)).trans h4
        have e5 := (st.below.cell (World.block_lt_of_cell? _ _ h5)).trans h5
        have e6 := (st.below.cell (World.block_lt_of_cell? _ _ h6)).trans h6
        rw [← Nat.add_assoc] at e4 e5 e6
        exact ⟨o1, o2, kd, nn, k, e, h1, h2, h3, e4, e5, e6⟩
    subst ha
    have hjc : ((j : Nat) : Int) < ((n : Nat) : Int) := by omega
    have hj4 : ((j : Nat) : Int) ≤ 80 := by omega
    obtain ⟨V, hV⟩ : ∃ V, V = wr.alloc (.cells #[.int .i64 kd, .int .i64 nn, .string ⟨k.toArray⟩] 32) := ⟨_, rfl⟩
    obtain ⟨ab, hab⟩ : ∃ ab, ab = wr.heap.size := ⟨_, rfl⟩
    have sV := st.box (.cells #[.int .i64 kd, .int .i64 nn, .string ⟨k.toArray⟩] 32)
    rw [← hV, ← hab] at sV
    have k7 := (c1_of st.e7).1
    have h7lt : b7 < wr.heap.size := by have := st.ord; omega
    have HR := Lib.hid (And.intro sV (And.intro lo (And.intro hjx (And.intro hjH (And.intro hjM hjt)))))
    clear st sV lo hjn hjx hjH hjM hjt hkd htk hs
    by_cases h40 : 40 < k.length
    · have h1c : (40 : Int) < ((k.length : Nat) : Int) := by omega
      obtain ⟨rb, r4⟩ := HR.out.1.e4
      obtain ⟨cx, fx⟩ := c1_of r4
      rw [hV] at cx fx
      clear h40 r4 hab k7 h7lt
      go_wp2_with fail
      rw [← hV] at cx fx ⊢
      exact leaveC0 rfl rfl rfl (World.cell?_setCell_same _ _ _ cx) ⟨rfl, HR.out.1.below.setCell (by have := HR.out.1.ord; show w.heap.size ≤ b4; omega) _⟩
    have h1c : ((k.length : Nat) : Int) ≤ 40 := by omega
    have hkk : wk k := by unfold wk maxLen; omega
    have HK := Lib.hid hkk
    clear h40 hkk
    obtain ⟨hr, hro⟩ := rw_own HR.out.1.row rfl
    obtain ⟨av, cv, hvs⟩ := hr.shape
    subst hvs
    obtain ⟨nt, hnt⟩ : ∃ nt, nt = tl.length := ⟨_, rfl⟩
    rw [← hnt] at k7
    have a0 : V.cell? ⟨ab, 0, none⟩ = some (.int .i64 kd) := by rw [cell_of_row _ _ _ _ _ _ HR.out.1.a]; rfl
    have a1 : V.cell? ⟨ab, 1, none⟩ = some (.int .i64 nn) := by rw [cell_of_row _ _ _ _ _ _ HR.out.1.a]; rfl
    have a2 : V.cell? ⟨ab, 2, none⟩ = some (.string ⟨k.toArray⟩) := by rw [cell_of_row _ _ _ _ _ _ HR.out.1.a]; rfl
    have HS := Lib.hid (And.intro hr hnt)
    have hnt2 : ((nt : Nat) : Int) ≤ 80 := by have := HR.out.2.2.2.2.2; omega
    clear hr hro hnt
    go_wp2_with fail
    rw [← hV, ← hab]
    have HAB := Lib.hid (And.intro hV hab)
    have k7 : V.cell? ⟨b7, 0, none⟩ = some (.slice av nt cv) := by rw [HS.out.2]; exact (c1_of HR.out.1.e7).1
    clear hV hab c1 c2 c3 h7lt
    go_loopw [13, 65] (fun kn iv wr' => ∃ (i : Nat), iv = .int .i64 ((i : Nat) : Int) ∧ i ≤ nt ∧ V = wr' ∧ kn = .bool (decide (k ∈ tl.take i))) (fun _ iv _ => nt - (RowKit.intOf iv).toNat)
    case atStart => exact ⟨0, rfl, Nat.zero_le _, rfl, by simp⟩
    case round =>
      obtain ⟨i, hiv, hin, hwr, hkn⟩ := hrel
      subst hwr hiv hkn
      by_cases hix : i < nt
      · obtain ⟨ha, hn⟩ := HS.out
        have hil : i < tl.length := by omega
        obtain ⟨g1, e1, k1⟩ : ∃ g, av = some ⟨g, 0, none⟩ ∧ V.cell? ⟨g, i, none⟩ = some (.string ⟨(tl.getD i []).toArray⟩) := by
          rcases ha with ⟨h1, _⟩ | ⟨g, c, h1, h2⟩
          · rw [h1] at hil; simp at hil
          · cases h1; exact ⟨g, rfl, h2 i hil⟩
        subst e1
        obtain ⟨y, hy⟩ : ∃ x, x = tl.getD i [] := ⟨_, rfl⟩
        rw [← hy] at k1
        have hic : ((i : Nat) : Int) < ((nt : Nat) : Int) := by omega
        have hi0 : (0 : Int) ≤ ((i : Nat) : Int) := by omega
        have hi4 : ((i : Nat) : Int) ≤ 1000000 := by omega
        have htk : tl.take (i + 1) = tl.take i ++ [y] := by rw [List.take_add_one, hy, List.getD_eq_getElem?_getD, List.getElem?_eq_getElem hil]; rfl
        have HI := Lib.hid (And.intro hix (And.intro htk hil))
        clear ha hn hil hin hix htk hy
        by_cases hm : k ∈ tl.take i
        · have HM := Lib.hid hm
          rw [decide_eq_true hm]
          clear hm
          go_wp2_with fail
          go_roundw
          case rel => exact ⟨i + 1, by simp, HI.out.1, trivial, by rw [HI.out.2.1, decide_eq_true (List.mem_append.2 (.inl HM.out))]⟩
          case measure => have := HI.out.1; simp [RowKit.intOf]; omega
        · have HM := Lib.hid hm
          rw [decide_eq_false hm]
          clear hm
          by_cases hyk : y = k
          · have hyb : (y == k) = true := by simp [hyk]
            have HY := Lib.hid hyk
            clear hyk
            go_wp2_with fail
            go_roundw
            case rel => exact ⟨i + 1, by simp, HI.out.1, trivial, by rw [HI.out.2.1, decide_eq_true (List.mem_append.2 (.inr (by rw [HY.out]; simp)))]⟩
            case measure => have := HI.out.1; simp [RowKit.intOf]; omega
          · have hyb : (y == k) = false := by simp [hyk]
            have HY := Lib.hid hyk
            clear hyk
            go_wp2_with fail
            go_roundw
            case rel => exact ⟨i + 1, by simp, HI.out.1, trivial, by rw [HI.out.2.1, decide_eq_false (by rw [List.mem_append]; rintro (h | h); exact HM.out h; exact HY.out (List.mem_singleton.1 h).symm)]⟩
            case measure => have := HI.out.1; simp [RowKit.intOf]; omega
      · have hie : nt = i := by omega
        subst hie
        have htk : tl.take nt = tl := by rw [HS.out.2, List.take_length]
        rw [htk]
        clear htk hin hix a0
        have a0 : V.cell? ⟨ab, 0, none⟩ = some (.int .i64 kd) := by rw [cell_of_row _ _ _ _ _ _ HR.out.1.a]; rfl
        obtain ⟨kb, hkb⟩ : ∃ b, b = decide (k ∈ tl) := ⟨_, rfl⟩
        rw [← hkb]
        have HKB := Lib.hid hkb
        clear hkb
        obtain hkd | hkd | hkd | hkd : kd = 0 ∨ (kd = 1 ∨ kd = 2) ∨ kd = 3 ∨ (kd ≠ 0 ∧ kd ≠ 1 ∧ kd ≠ 2 ∧ kd ≠ 3) := by omega
        · as_aux_lemma =>
            subst hkd
            by_cases hbad : ¬ (0 ≤ nn ∧ nn ≤ 128)
            · by_cases hneg : nn < 0
              all_goals
                first | (have hx2 : 128 < nn := by omega) | (have hx2 : True := trivial)
                first | (have hx3 : 0 ≤ nn := by omega) | (have hx3 : True := trivial)
                have HT := Lib.hid (And.intro (HR.out.1.more (Nat.le_succ j)) (And.intro HR.out.2.1 (And.intro (show nH ≤ j + 1 by have := HR.out.2.2.2.1; omega) (And.intro (show nM ≤ j + 1 by have := HR.out.2.2.2.2.1; omega) (show tl.length ≤ j + 1 by have := HR.out.2.2.2.2.2; omega)))))
                have hS := Set_bad lb (.string ⟨k.toArray⟩) nn hbad V
                clear hbad
                go_wp2_with fail
                refine hS.mono ?_
                rintro e Z ⟨rfl, hZ⟩
                obtain rfl := hZ.symm
                clear hS
                obtain ⟨tH, tM, tL, tk, t8, t9⟩ := HT.out.1.facts HT.out.2.1 k HK.out (by have := HT.out.2.2.2.2; omega)
                have t2 : V.cell? ⟨ab, 2, none⟩ = some (.string ⟨k.toArray⟩) := by rw [cell_of_row _ _ _ _ _ _ HT.out.1.a]; rfl
                obtain ⟨xx, hxx⟩ : ∃ xx, xx = has (H) k := ⟨_, rfl⟩
                rw [← hxx] at tH tk
                obtain ⟨yy, hyy⟩ : ∃ yy, yy = may ea (M) k := ⟨_, rfl⟩
                rw [← hyy] at tM tL
                clear hxx hyy t9
                go_wp2_with fail
                go_quiet ((first
                  | (go_at_call 13; exact Calls.quiet_of_same (tH _ (by simp)))
                  | (go_at_call 14; exact Calls.quiet_of_same (tM _ (by simp)))
                  | (go_at_call 8; exact Calls.quiet_of_same (tL _ (by simp)))))
                go_wp2_with fail
                refine ⟨PI.mk' _ (j + 1) ⟨HR.out.2.2.1, HT.out.2.2.1, HT.out.2.2.2.1, HT.out.2.2.2.2, (HT.out.1.old (below_drewN (Below.refl _ _) _)).home, HT.out.2.1⟩ (by kernel_rfl), ?_⟩
                have hjn := HR.out.2.2.1
                change n - (((j : Nat) : Int) + 1).toNat < n - ((j : Nat) : Int).toNat
                omega
            have g0 : 0 ≤ nn := by omega
            have g1 : nn ≤ 128 := by omega
            clear hbad
            by_cases hm : k ∈ tl
            · obtain rfl : kb = true := by rw [HKB.out]; exact decide_eq_true hm
              obtain ⟨Z1, run1, s1⟩ := HR.out.1.putM (by have := HR.out.2.2.2.2.1; unfold maxLen; omega) HK.out nn
              have hS := s1.Set_ok k HK.out nn ⟨g0, g1⟩ (.inl (by rw [HR.out.2.1.knows]; exact decide_eq_true hm)) (by have := HR.out.2.2.2.2.2; omega)
              rw [HR.out.2.1.knows, decide_eq_true hm, if_pos rfl] at hS
              have hg : (g k).isSome = true ∨ (g k).isSome = false := by cases (g k).isSome <;> simp
              have k9 := (c1_of HR.out.1.e9).1
              have d1 : Z1.cell? ⟨ab, 1, none⟩ = some (.int .i64 nn) := by rw [cell_of_row _ _ _ _ _ _ s1.a]; rfl
              have d2 : Z1.cell? ⟨ab, 2, none⟩ = some (.string ⟨k.toArray⟩) := by rw [cell_of_row _ _ _ _ _ _ s1.a]; rfl
              have HO := Lib.hid (And.intro (HR.out.2.1.old hm nn) (show (if (g k).isSome = true then nM else nM + 1) ≤ j + 1 by have := HR.out.2.2.2.2.1; split <;> omega))
              clear s1 hg
              go_wp2_with fail
              refine hS.mono ?_
              rintro e Z ⟨rfl, sZ⟩
              have HT := Lib.hid (And.intro (sZ.more (Nat.le_succ j)) (And.intro HO.out.1 (And.intro (show nH ≤ j + 1 by have := HR.out.2.2.2.1; omega) (And.intro HO.out.2 (show tl.length ≤ j + 1 by have := HR.out.2.2.2.2.2; omega)))))
              clear hS sZ k9 d1 d2
              obtain ⟨tH, tM, tL, tk, t8, t9⟩ := HT.out.1.facts HT.out.2.1 k HK.out (by have := HT.out.2.2.2.2; omega)
              have t2 : Z.cell? ⟨ab, 2, none⟩ = some (.string ⟨k.toArray⟩) := by rw [cell_of_row _ _ _ _ _ _ HT.out.1.a]; rfl
              obtain ⟨xx, hxx⟩ : ∃ xx, xx = has (H) k := ⟨_, rfl⟩
              rw [← hxx] at tH tk
              obtain ⟨yy, hyy⟩ : ∃ yy, yy = may ea (Hp.upd M k nn) k := ⟨_, rfl⟩
              rw [← hyy] at tM tL
              clear hxx hyy t9
              go_wp2_with fail
              go_quiet ((first
                | (go_at_call 13; exact Calls.quiet_of_same (tH _ (by simp)))
                | (go_at_call 14; exact Calls.quiet_of_same (tM _ (by simp)))
                | (go_at_call 8; exact Calls.quiet_of_same (tL _ (by simp)))))
              go_wp2_with fail
              refine ⟨PI.mk' _ (j + 1) ⟨HR.out.2.2.1, HT.out.2.2.1, HT.out.2.2.2.1, HT.out.2.2.2.2, (HT.out.1.old (below_drewN (Below.refl _ _) _)).home, HT.out.2.1⟩ (by kernel_rfl), ?_⟩
              have hjn := HR.out.2.2.1
              change n - (((j : Nat) : Int) + 1).toNat < n - ((j : Nat) : Int).toNat
              omega
            obtain rfl : kb = false := by rw [HKB.out]; exact decide_eq_false hm
            by_cases h16 : 16 ≤ nt
            · have HT := Lib.hid (And.intro (HR.out.1.more (Nat.le_succ j)) (And.intro HR.out.2.1 (And.intro (show nH ≤ j + 1 by have := HR.out.2.2.2.1; omega) (And.intro (show nM ≤ j + 1 by have := HR.out.2.2.2.2.1; omega) (show tl.length ≤ j + 1 by have := HR.out.2.2.2.2.2; omega)))))
              have hS := HR.out.1.Set_full k HK.out nn ⟨g0, g1⟩ (HR.out.2.1.non k hm) (by have := HS.out.2; omega)
              have h16c : 16 ≤ ((nt : Nat) : Int) := by omega
              clear h16
              go_wp2_with fail
              refine hS.mono ?_
              rintro e Z ⟨rfl, hZ⟩
              obtain rfl := hZ.symm
              clear hS
              obtain ⟨tH, tM, tL, tk, t8, t9⟩ := HT.out.1.facts HT.out.2.1 k HK.out (by have := HT.out.2.2.2.2; omega)
              have t2 : V.cell? ⟨ab, 2, none⟩ = some (.string ⟨k.toArray⟩) := by rw [cell_of_row _ _ _ _ _ _ HT.out.1.a]; rfl
              obtain ⟨xx, hxx⟩ : ∃ xx, xx = has (H) k := ⟨_, rfl⟩
              rw [← hxx] at tH tk
              obtain ⟨yy, hyy⟩ : ∃ yy, yy = may ea (M) k := ⟨_, rfl⟩
              rw [← hyy] at tM tL
              clear hxx hyy t9
              go_wp2_with fail
              go_quiet ((first
                | (go_at_call 13; exact Calls.quiet_of_same (tH _ (by simp)))
                | (go_at_call 14; exact Calls.quiet_of_same (tM _ (by simp)))
                | (go_at_call 8; exact Calls.quiet_of_same (tL _ (by simp)))))
              go_wp2_with fail
              refine ⟨PI.mk' _ (j + 1) ⟨HR.out.2.2.1, HT.out.2.2.1, HT.out.2.2.2.1, HT.out.2.2.2.2, (HT.out.1.old (below_drewN (Below.refl _ _) _)).home, HT.out.2.1⟩ (by kernel_rfl), ?_⟩
              have hjn := HR.out.2.2.1
              change n - (((j : Nat) : Int) + 1).toNat < n - ((j : Nat) : Int).toNat
              omega
            obtain ⟨ao, cp, Y, runA, y7, sA⟩ := HR.out.1.app k (by have := HR.out.2.2.2.2.2; omega) 28
            rw [← HS.out.2] at runA sA
            obtain ⟨cY, fY⟩ := c1_of y7
            rw [← HS.out.2] at cY
            obtain ⟨Z1, run1, s1⟩ := sA.putM (by have := HR.out.2.2.2.2.1; unfold maxLen; omega) HK.out nn
            have hS := s1.Set_ok k HK.out nn ⟨g0, g1⟩ (.inr (by omega)) (by omega)
            rw [HR.out.2.1.knows, decide_eq_false hm, if_neg (by simp)] at hS
            have k9 := (c1_of sA.e9).1
            have i1 : (Y.setCell ⟨b7, 0, none⟩ (.slice ao (nt + 1) cp)).cell? ⟨ab, 1, none⟩ = some (.int .i64 nn) := by rw [cell_of_row _ _ _ _ _ _ sA.a]; rfl
            have i2 : (Y.setCell ⟨b7, 0, none⟩ (.slice ao (nt + 1) cp)).cell? ⟨ab, 2, none⟩ = some (.string ⟨k.toArray⟩) := by rw [cell_of_row _ _ _ _ _ _ sA.a]; rfl
            have d1 : Z1.cell? ⟨ab, 1, none⟩ = some (.int .i64 nn) := by rw [cell_of_row _ _ _ _ _ _ s1.a]; rfl
            have d2 : Z1.cell? ⟨ab, 2, none⟩ = some (.string ⟨k.toArray⟩) := by rw [cell_of_row _ _ _ _ _ _ s1.a]; rfl
            have hnl : (tl ++ [k]).length = nt + 1 := by rw [List.length_append, HS.out.2]; rfl
            have HO := Lib.hid (And.intro (HR.out.2.1.new HK.out hm nn) (And.intro (show (if (g k).isSome = true then nM else nM + 1) ≤ j + 1 by have := HR.out.2.2.2.2.1; split <;> omega) (And.intro hnl (show (tl ++ [k]).length ≤ j + 1 by have := HR.out.2.2.2.2.2; have := HS.out.2; omega))))
            have h16c : ((nt : Nat) : Int) < 16 := by omega
            clear s1 sA h16 hnl y7
            go_wp2_with (at_builtin; refine wpList_plain rfl fun _ hK => wp_append' _ _ _ rfl rfl rfl runA (hK _ _ ?_))
            clear cY fY runA k7
            refine hS.mono ?_
            rintro e Z ⟨rfl, sZ⟩
            have HT := Lib.hid (And.intro (show St w Z B lb ea (tl ++ [k]).length (j + 1) b2 b4 b7 bH bM b8 b9 ab (.cells #[.int .i64 0, .int .i64 nn, .string ⟨k.toArray⟩] 32) (.slice ao (nt + 1) cp) (tl ++ [k]) _ _ _ _ _ _ by rw [HO.out.2.2.1]; exact sZ.more (Nat.le_succ j)) (And.intro HO.out.1 (And.intro (show nH ≤ j + 1 by have := HR.out.2.2.2.1; omega) (And.intro HO.out.2.1 HO.out.2.2.2))))
            clear hS sZ k9 d1 d2 i1 i2
            obtain ⟨tH, tM, tL, tk, t8, t9⟩ := HT.out.1.facts HT.out.2.1 k HK.out (by have := HT.out.2.2.2.2; omega)
            have t2 : Z.cell? ⟨ab, 2, none⟩ = some (.string ⟨k.toArray⟩) := by rw [cell_of_row _ _ _ _ _ _ HT.out.1.a]; rfl
            obtain ⟨xx, hxx⟩ : ∃ xx, xx = has (H) k := ⟨_, rfl⟩
            rw [← hxx] at tH tk
            obtain ⟨yy, hyy⟩ : ∃ yy, yy = may ea (Hp.upd M k nn) k := ⟨_, rfl⟩
            rw [← hyy] at tM tL
            clear hxx hyy t9
            go_wp2_with fail
            go_quiet ((first
              | (go_at_call 13; exact Calls.quiet_of_same (tH _ (by simp)))
              | (go_at_call 14; exact Calls.quiet_of_same (tM _ (by simp)))
              | (go_at_call 8; exact Calls.quiet_of_same (tL _ (by simp)))))
            go_wp2_with fail
            refine ⟨PI.mk' _ (j + 1) ⟨HR.out.2.2.1, HT.out.2.2.1, HT.out.2.2.2.1, HT.out.2.2.2.2, (HT.out.1.old (below_drewN (Below.refl _ _) _)).home, HT.out.2.1⟩ (by kernel_rfl), ?_⟩
            have hjn := HR.out.2.2.1
            change n - (((j : Nat) : Int) + 1).toNat < n - ((j : Nat) : Int).toNat
            omega
        · as_aux_lemma =>
            obtain ⟨tH, tM, tL, tk, t8, t9⟩ := HR.out.1.facts HR.out.2.1 k HK.out (by have := HR.out.2.2.2.2.2; omega)
            obtain ⟨xh, hxh⟩ : ∃ xx, xx = has H k := ⟨_, rfl⟩
            rw [← hxh] at tk
            obtain ⟨ym, hym⟩ : ∃ yy, yy = may ea M k := ⟨_, rfl⟩
            rw [← hym] at tL
            have HXH := Lib.hid (And.intro hxh hym)
            clear tH tM t9 hxh hym
            rcases hkd with hkd | hkd
            all_goals
              subst hkd
              go_wp2_with fail
              go_quiet ((go_at_call 8; exact Calls.quiet_of_same (tL _ (by simp))))
              clear tL tk a0 a1 a2 t8 k7
              obtain ⟨V1, hV1⟩ : ∃ X, X = V.drewN nq := ⟨_, rfl⟩
              have sV1 := HR.out.1.old (below_drewN (Below.refl _ V) nq)
              rw [← hV1] at sV1 ⊢
              clear hV1
              have d8 := (c1_of sV1.e8).1
              have a2 : V1.cell? ⟨ab, 2, none⟩ = some (.string ⟨k.toArray⟩) := by rw [cell_of_row _ _ _ _ _ _ sV1.a]; rfl
              have lk : (Instr.lookup 29 (.map (some bH)) (.string ⟨k.toArray⟩) false).run Try.prog V1 = .ok (.int .i64 (has H k)) V1 := by rw [← HR.out.2.1.hs k HK.out]; exact Qt.look1 sV1.mH rfl HK.out
              rw [← HXH.out.1] at lk
              have V1S := Lib.hid sV1
              clear sV1
              by_cases hq : ym ≤ xh
              · have HT := Lib.hid (And.intro (V1S.out.more (Nat.le_succ j)) (And.intro HR.out.2.1 (And.intro (show nH ≤ j + 1 by have := HR.out.2.2.2.1; omega) (And.intro (show nM ≤ j + 1 by have := HR.out.2.2.2.2.1; omega) (show tl.length ≤ j + 1 by have := HR.out.2.2.2.2.2; omega)))))
                have hS := V1S.out.Take_no k HK.out (by have := HXH.out; omega)
                go_wp2_with fail
                refine hS.mono ?_
                rintro e Z ⟨rfl, hZ⟩
                obtain rfl := hZ.symm
                clear hS
                obtain ⟨tH, tM, tL, tk, t8, t9⟩ := HT.out.1.facts HT.out.2.1 k HK.out (by have := HT.out.2.2.2.2; omega)
                have t2 : V1.cell? ⟨ab, 2, none⟩ = some (.string ⟨k.toArray⟩) := by rw [cell_of_row _ _ _ _ _ _ HT.out.1.a]; rfl
                obtain ⟨xx, hxx⟩ : ∃ xx, xx = has (H) k := ⟨_, rfl⟩
                rw [← hxx] at tH tk
                obtain ⟨yy, hyy⟩ : ∃ yy, yy = may ea (M) k := ⟨_, rfl⟩
                rw [← hyy] at tM tL
                clear hxx hyy t9
                go_wp2_with fail
                go_quiet ((first
                  | (go_at_call 13; exact Calls.quiet_of_same (tH _ (by simp)))
                  | (go_at_call 14; exact Calls.quiet_of_same (tM _ (by simp)))
                  | (go_at_call 8; exact Calls.quiet_of_same (tL _ (by simp)))))
                go_wp2_with fail
                refine ⟨PI.mk' _ (j + 1) ⟨HR.out.2.2.1, HT.out.2.2.1, HT.out.2.2.2.1, HT.out.2.2.2.2, (HT.out.1.old (below_drewN (Below.refl _ _) _)).home, HT.out.2.1⟩ (by kernel_rfl), ?_⟩
                have hjn := HR.out.2.2.1
                change n - (((j : Nat) : Int) + 1).toNat < n - ((j : Nat) : Int).toNat
                omega
              have hq' : has H k < may ea M k := by have := HXH.out; omega
              have hbd := V1S.out.has_bd k
              obtain ⟨Z1, run1, s1⟩ := V1S.out.putH (by have := HR.out.2.2.2.1; unfold maxLen; omega) HK.out (xh + 1)
              have hS := s1.Take_ok k HK.out hq' (by omega)
              have d2 : Z1.cell? ⟨ab, 2, none⟩ = some (.string ⟨k.toArray⟩) := by rw [cell_of_row _ _ _ _ _ _ s1.a]; rfl
              have hwx : wrap64 (xh + 1) = xh + 1 := by have := HXH.out.1; unfold wrap64; omega
              have lo2 := HR.out.2.1.take k
              rw [← HXH.out.1] at lo2
              have HO := Lib.hid (And.intro lo2 (show (if (f k).isSome = true then nH else nH + 1) ≤ j + 1 by have := HR.out.2.2.2.1; split <;> omega))
              have hqx : xh < ym := by omega
              rw [← HXH.out.1] at hS
              clear s1 hq hq' hbd lo2
              go_wp2_with fail
              refine hS.mono ?_
              rintro e Z ⟨rfl, sZ⟩
              have HT := Lib.hid (And.intro sZ (And.intro HO.out.1 (And.intro HO.out.2 (And.intro (show nM ≤ j + 1 by have := HR.out.2.2.2.2.1; omega) (show tl.length ≤ j + 1 by have := HR.out.2.2.2.2.2; omega)))))
              clear hS sZ d2
              obtain ⟨tH, tM, tL, tk, t8, t9⟩ := HT.out.1.facts HT.out.2.1 k HK.out (by have := HT.out.2.2.2.2; omega)
              have t2 : Z.cell? ⟨ab, 2, none⟩ = some (.string ⟨k.toArray⟩) := by rw [cell_of_row _ _ _ _ _ _ HT.out.1.a]; rfl
              obtain ⟨xx, hxx⟩ : ∃ xx, xx = has (Hp.upd H k (xh + 1)) k := ⟨_, rfl⟩
              rw [← hxx] at tH tk
              obtain ⟨yy, hyy⟩ : ∃ yy, yy = may ea (M) k := ⟨_, rfl⟩
              rw [← hyy] at tM tL
              clear hxx hyy t9
              go_wp2_with fail
              go_quiet ((first
                | (go_at_call 13; exact Calls.quiet_of_same (tH _ (by simp)))
                | (go_at_call 14; exact Calls.quiet_of_same (tM _ (by simp)))
                | (go_at_call 8; exact Calls.quiet_of_same (tL _ (by simp)))))
              go_wp2_with fail
              refine ⟨PI.mk' _ (j + 1) ⟨HR.out.2.2.1, HT.out.2.2.1, HT.out.2.2.2.1, HT.out.2.2.2.2, (HT.out.1.old (below_drewN (Below.refl _ _) _)).home, HT.out.2.1⟩ (by kernel_rfl), ?_⟩
              have hjn := HR.out.2.2.1
              change n - (((j : Nat) : Int) + 1).toNat < n - ((j : Nat) : Int).toNat
              omega
        · as_aux_lemma =>
            subst hkd
            have lk : (Instr.lookup 29 (.map (some bH)) (.string ⟨k.toArray⟩) false).run Try.prog V = .ok (.int .i64 (has H k)) V := by rw [← HR.out.2.1.hs k HK.out]; exact Qt.look1 HR.out.1.mH rfl HK.out
            have t8 := (c1_of HR.out.1.e8).1
            obtain ⟨xh, hxh⟩ : ∃ xx, xx = has H k := ⟨_, rfl⟩
            rw [← hxh] at lk
            by_cases hq : xh = 0
            · have HT := Lib.hid (And.intro (HR.out.1.more (Nat.le_succ j)) (And.intro HR.out.2.1 (And.intro (show nH ≤ j + 1 by have := HR.out.2.2.2.1; omega) (And.intro (show nM ≤ j + 1 by have := HR.out.2.2.2.2.1; omega) (show tl.length ≤ j + 1 by have := HR.out.2.2.2.2.2; omega)))))
              have hS := HR.out.1.Give_no k HK.out (by omega)
              subst hq
              have HXH := Lib.hid hxh
              clear hxh
              go_wp2_with fail
              refine hS.mono ?_
              rintro e Z ⟨rfl, hZ⟩
              obtain rfl := hZ.symm
              clear hS t8 lk
              obtain ⟨tH, tM, tL, tk, t8, t9⟩ := HT.out.1.facts HT.out.2.1 k HK.out (by have := HT.out.2.2.2.2; omega)
              have t2 : V.cell? ⟨ab, 2, none⟩ = some (.string ⟨k.toArray⟩) := by rw [cell_of_row _ _ _ _ _ _ HT.out.1.a]; rfl
              obtain ⟨xx, hxx⟩ : ∃ xx, xx = has (H) k := ⟨_, rfl⟩
              rw [← hxx] at tH tk
              obtain ⟨yy, hyy⟩ : ∃ yy, yy = may ea (M) k := ⟨_, rfl⟩
              rw [← hyy] at tM tL
              clear hxx hyy t9
              go_wp2_with fail
              go_quiet ((first
                | (go_at_call 13; exact Calls.quiet_of_same (tH _ (by simp)))
                | (go_at_call 14; exact Calls.quiet_of_same (tM _ (by simp)))
                | (go_at_call 8; exact Calls.quiet_of_same (tL _ (by simp)))))
              go_wp2_with fail
              refine ⟨PI.mk' _ (j + 1) ⟨HR.out.2.2.1, HT.out.2.2.1, HT.out.2.2.2.1, HT.out.2.2.2.2, (HT.out.1.old (below_drewN (Below.refl _ _) _)).home, HT.out.2.1⟩ (by kernel_rfl), ?_⟩
              have hjn := HR.out.2.2.1
              change n - (((j : Nat) : Int) + 1).toNat < n - ((j : Nat) : Int).toNat
              omega
            have hbd := HR.out.1.has_bd k
            obtain ⟨Z1, run1, s1⟩ := HR.out.1.putH (by have := HR.out.2.2.2.1; unfold maxLen; omega) HK.out (xh - 1)
            have hS := s1.Give_ok k HK.out (by omega) (by omega)
            have d2 : Z1.cell? ⟨ab, 2, none⟩ = some (.string ⟨k.toArray⟩) := by rw [cell_of_row _ _ _ _ _ _ s1.a]; rfl
            have hwx : wrap64 (xh - 1) = xh - 1 := by unfold wrap64; omega
            have lo2 := HR.out.2.1.give k
            rw [← hxh] at lo2
            have HO := Lib.hid (And.intro lo2 (show (if (f k).isSome = true then nH else nH + 1) ≤ j + 1 by have := HR.out.2.2.2.1; split <;> omega))
            clear s1 hbd lo2
            have HXH := Lib.hid hxh
            clear hxh
            go_wp2_with fail
            refine hS.mono ?_
            rintro e Z ⟨rfl, sZ⟩
            have HT := Lib.hid (And.intro (sZ.more (Nat.le_succ j)) (And.intro HO.out.1 (And.intro HO.out.2 (And.intro (show nM ≤ j + 1 by have := HR.out.2.2.2.2.1; omega) (show tl.length ≤ j + 1 by have := HR.out.2.2.2.2.2; omega)))))
            clear hS sZ d2
            obtain ⟨tH, tM, tL, tk, t8, t9⟩ := HT.out.1.facts HT.out.2.1 k HK.out (by have := HT.out.2.2.2.2; omega)
            have t2 : Z.cell? ⟨ab, 2, none⟩ = some (.string ⟨k.toArray⟩) := by rw [cell_of_row _ _ _ _ _ _ HT.out.1.a]; rfl
            obtain ⟨xx, hxx⟩ : ∃ xx, xx = has (less H k) k := ⟨_, rfl⟩
            rw [← hxx] at tH tk
            obtain ⟨yy, hyy⟩ : ∃ yy, yy = may ea (M) k := ⟨_, rfl⟩
            rw [← hyy] at tM tL
            clear hxx hyy t9
            go_wp2_with fail
            go_quiet ((first
              | (go_at_call 13; exact Calls.quiet_of_same (tH _ (by simp)))
              | (go_at_call 14; exact Calls.quiet_of_same (tM _ (by simp)))
              | (go_at_call 8; exact Calls.quiet_of_same (tL _ (by simp)))))
            go_wp2_with fail
            refine ⟨PI.mk' _ (j + 1) ⟨HR.out.2.2.1, HT.out.2.2.1, HT.out.2.2.2.1, HT.out.2.2.2.2, (HT.out.1.old (below_drewN (Below.refl _ _) _)).home, HT.out.2.1⟩ (by kernel_rfl), ?_⟩
            have hjn := HR.out.2.2.1
            change n - (((j : Nat) : Int) + 1).toNat < n - ((j : Nat) : Int).toNat
            omega
        · as_aux_lemma =>
            obtain ⟨n0, n1, n2, n3⟩ := hkd
            have hC := HR.out.1.Copy (by omega) (by have := HR.out.2.2.2.2.2; omega)
            have hVl := HR.out.1.abLt
            go_wp2_with fail
            refine hC.mono ?_
            rintro e Z1 ⟨lb', rfl, q1, b1⟩
            have hT := q1.Take b1.size k HK.out
            have d2 : Z1.cell? ⟨ab, 2, none⟩ = some (.string ⟨k.toArray⟩) := (b1.cell (p := ⟨ab, 2, none⟩) hVl).trans a2
            have H1 := Lib.hid b1
            clear hC q1 b1
            go_wp2_with fail
            refine hT.mono ?_
            rintro e Z2 ⟨⟨x2, rfl⟩, q2, b2'⟩
            have hS := some_Set q2 (Nat.le_trans H1.out.size b2'.size) k HK.out
            have d3 : Z2.cell? ⟨ab, 2, none⟩ = some (.string ⟨k.toArray⟩) := (b2'.cell (p := ⟨ab, 2, none⟩) hVl).trans d2
            have H2 := Lib.hid (H1.out.trans b2')
            clear hT q2 b2' d2
            go_wp2_with fail
            refine hS.mono ?_
            rintro e Z ⟨⟨x3, rfl⟩, b3⟩
            have HT := Lib.hid (And.intro ((HR.out.1.old (H2.out.trans b3)).more (Nat.le_succ j)) (And.intro HR.out.2.1 (And.intro (show nH ≤ j + 1 by have := HR.out.2.2.2.1; omega) (And.intro (show nM ≤ j + 1 by have := HR.out.2.2.2.2.1; omega) (show tl.length ≤ j + 1 by have := HR.out.2.2.2.2.2; omega)))))
            clear hS b3 d3 hVl
            obtain ⟨tH, tM, tL, tk, t8, t9⟩ := HT.out.1.facts HT.out.2.1 k HK.out (by have := HT.out.2.2.2.2; omega)
            have t2 : Z.cell? ⟨ab, 2, none⟩ = some (.string ⟨k.toArray⟩) := by rw [cell_of_row _ _ _ _ _ _ HT.out.1.a]; rfl
            obtain ⟨xx, hxx⟩ : ∃ xx, xx = has (H) k := ⟨_, rfl⟩
            rw [← hxx] at tH tk
            obtain ⟨yy, hyy⟩ : ∃ yy, yy = may ea (M) k := ⟨_, rfl⟩
            rw [← hyy] at tM tL
            clear hxx hyy t9
            go_wp2_with fail
            go_quiet ((first
              | (go_at_call 13; exact Calls.quiet_of_same (tH _ (by simp)))
              | (go_at_call 14; exact Calls.quiet_of_same (tM _ (by simp)))
              | (go_at_call 8; exact Calls.quiet_of_same (tL _ (by simp)))))
            go_wp2_with fail
            refine ⟨PI.mk' _ (j + 1) ⟨HR.out.2.2.1, HT.out.2.2.1, HT.out.2.2.2.1, HT.out.2.2.2.2, (HT.out.1.old (below_drewN (Below.refl _ _) _)).home, HT.out.2.1⟩ (by kernel_rfl), ?_⟩
            have hjn := HR.out.2.2.1
            change n - (((j : Nat) : Int) + 1).toNat < n - ((j : Nat) : Int).toNat
            omega
end Go.Proofs.Ythbpgdeaaadlbaa.Qt
