
/- WheelPlays: the act Turn, kind 4 -/
import Derived.Test.YtcafiehlhdoibaaWh29
import Derived.Test.YtcafiehlhdoibaaWh21
namespace Go.Proofs.Ytcafiehlhdoibaa.Wh
open Go.RowKit Go.Lib Go.Sort Go.Maps Hp Ht
set_option linter.unusedVariables false
set_option maxRecDepth 20000
set_option maxHeartbeats 8000000 in
theorem do_turn4 {B : Nat} {N : Nat → Prop} {X : World} {wb mb : Nat} {lv : Value} {most : Nat} {now : Int} {m : List (K × Int)} (h : Pl B N X wb mb lv most now m now m) (hB : B ≤ X.heap.size) (hN : ∀ x, N x → x < X.heap.size) (hm : m.length ≤ 100) {k : K} (hk : wk k) {kind ticks : Int} (hkind : kind = 4)
    (ht : -1125899906842624 ≤ ticks ∧ ticks ≤ 1125899906842624) (hmost : 1 ≤ most ∧ most ≤ 65536) :
    Calls Try.prog 9 #[.pointer (some ⟨wb, 0, none⟩), .pointer (some ⟨mb, 0, none⟩), .agg #[.int .i64 kind, ek k, .int .i64 ticks]] X (Done B N X wb mb most m) := by
  have hmix : Try.prog.follows .mixedOrders = true := by kernel_rfl
  subst hkind
  obtain ⟨z, hz, hF⟩ := find_is h.w.nd (by omega) k
  obtain ⟨la, lc, rfl⟩ := own_shape h.r
  obtain ⟨lv, hlv⟩ : ∃ lv, lv = Value.slice la m.length lc := ⟨_, rfl⟩
  obtain ⟨n, hn⟩ : ∃ n, n = m.length := ⟨_, rfl⟩
  obtain ⟨V, hV⟩ : ∃ V, V = X.alloc (.cells #[.int .i64 4, .string ⟨k.toArray⟩, .int .i64 ticks] 33) := ⟨_, rfl⟩
  obtain ⟨ab, hab⟩ : ∃ ab, ab = X.heap.size := ⟨_, rfl⟩
  have hbV : Below X.heap.size X V := by rw [hV]; exact (Below.refl _ _).alloc (Nat.le_refl _) _
  have hA : V.heap[ab]? = some (.cells #[.int .i64 4, .string ⟨k.toArray⟩, .int .i64 ticks] 33 (0, 0)) := by rw [hV, hab]; exact (MapKept.heap_alloc _ _).1
  have p := h.also (N' := fun x => x = ab) hbV (fun x e => by omega)
  have a0 : V.cell? ⟨ab, 0, none⟩ = some (.int .i64 4) := by rw [cell_of_row _ _ _ _ _ _ hA]; rfl
  have a1 : V.cell? ⟨ab, 1, none⟩ = some (.string ⟨k.toArray⟩) := by rw [cell_of_row _ _ _ _ _ _ hA]; rfl
  have a2 : V.cell? ⟨ab, 2, none⟩ = some (.int .i64 ticks) := by rw [cell_of_row _ _ _ _ _ _ hA]; rfl
  have c0 := p.cells.1
  have c1 := p.cells.2.1
  have c2 := p.cells.2.2.1
  have hF2 : ∀ W, W.heap = V.heap → Calls Try.prog 16 #[.slice la m.length lc, .string ⟨k.toArray⟩] W fun e Y => e = .returned (.int .i64 z) ∧ Y = W := fun W e => hF W _ ((src_own p.r).kept fun _ _ _ _ => by rw [e])
  have htk := h.w.tk
  have hT0 : -1125899906842624 ≤ now + ticks ∧ now + ticks ≤ 2251799813685248 := by have := htk.1; have := htk.2; unfold MT at *; omega
  obtain ⟨T, hT⟩ : ∃ T, T = now + ticks := ⟨_, rfl⟩
  have hw1 : IntKind.i64.wrap (now + ticks) = T := by rw [IntWalk.i64_in, hT] <;> omega
  have hw2 : wrap64 (now + ticks) = T := by rw [hT]; unfold wrap64; omega
  rw [← hT] at hT0
  have hsz : V.heap.size = X.heap.size + 1 := by rw [hV]; simp
  rw [← hn] at h p
  have H0 := Lib.hid (And.intro h (And.intro p (And.intro hbV (And.intro hz (And.intro hn (And.intro hsz (And.intro hA htk)))))))
  rw [← hn] at hF2 c2
  have HZ := Lib.hid (And.intro hT hab)
  clear h p hF hn hA hlv hbV hz hT htk
  unfold ek
  go_enter Try.func9, Try.ntmps9
  go_wp2_with fail
  rw [← hV, ← hab]
  clear hV hab
  go_quiet ((go_at_call 16; exact Calls.quiet_of_same (hF2 _ (by simp))))
  
  go_wp2_with fail
  go_quiet (fail)
  rename_i q1 _ _
  by_cases hr1 : now ≤ T
  rotate_left
  · have hr3 : T < now := by omega
    obtain ⟨h, p, hbV, hz, hn, hsz, hA, htk⟩ := H0.out
    have hAd := (p.old (below_drewN V (q1 + nq))).turnNo (to := T) (by unfold MT; omega)
    have HB := Lib.hid (And.intro h hbV)
    clear H0 p hbV hz hn hA htk h hF2 hw1 hw2 hsz HZ
    go_wp2_with fail
    refine hAd.mono ?_
    rintro e W2 ⟨rfl, rfl⟩
    go_wp2_with fail
    go_ret
    exact done_same HB.out.1 (by simp) (HB.out.2.trans ((below_drewN V (q1 + nq)).mono HB.out.2.size))
  by_cases hr2 : T ≤ MT
  rotate_left
  · have hr3 : 1099511627776 < T := by unfold MT at hr2; omega
    have hr4 : ¬ T < now := by omega
    obtain ⟨h, p, hbV, hz, hn, hsz, hA, htk⟩ := H0.out
    have hAd := (p.old (below_drewN V (q1 + nq))).turnNo (to := T) (by unfold MT; omega)
    have HB := Lib.hid (And.intro h hbV)
    clear H0 p hbV hz hn hA htk h hF2 hw1 hw2 hsz HZ
    go_wp2_with fail
    refine hAd.mono ?_
    rintro e W2 ⟨rfl, rfl⟩
    go_wp2_with fail
    go_ret
    exact done_same HB.out.1 (by simp) (HB.out.2.trans ((below_drewN V (q1 + nq)).mono HB.out.2.size))
  obtain ⟨h, p, hbV, hz, hn, hsz, hA, htk⟩ := H0.out
  have hN1 : ∀ x, (N x ∨ x = ab) → x < V.heap.size := by
    have h2 := HZ.out.2
    rintro x (e | e)
    · have := hN x e; omega
    · omega
  have hmbV := p.lt
  have hAd := (p.old (below_drewN V (q1 + nq))).turn (by show B ≤ V.heap.size; omega) hN1 (by omega) (to := T) ⟨Int.le_trans htk.1 hr1, hr2⟩ hr1
  have hr3 : T ≤ 1099511627776 := by unfold MT at hr2; exact hr2
  have HB := Lib.hid (And.intro hbV (And.intro hn (And.intro hN1 (And.intro hmbV hm))))
  clear H0 p hbV hz hn hA htk h hF2 hw1 hw2 hsz HZ hN1 hmbV hr2 hm
  go_wp2_with fail
  refine hAd.mono ?_
  rintro e W2 ⟨gv, ls, rfl, hp1, hs1, hg1, hg2, p2, f2⟩
  clear a0 a1 a2 c0 c1 c2
  have c0 := p2.cells.1
  have c2 := p2.cells.2.2.1
  have H2 := Lib.hid (And.intro hp1 (And.intro hs1 (And.intro hg1 (And.intro hg2 (And.intro p2 f2)))))
  clear hp1 hs1 hg1 hg2 p2 f2 hAd
  go_wp2_with fail
  clear c0 c2
  go_loopw [12, 13, 143] (fun sv1 sv2 iv wr => ∃ (dv lw : Value) (j : Nat), dv = sv1 ∧ lw = sv2 ∧ iv = .int .i64 ((j : Nat) : Int) ∧ j ≤ n ∧ Own wr W2.heap.size dv ((m.take j).filter fun x => decide (x.2 ≤ T)) ∧ Own wr W2.heap.size lw ((m.take j).filter fun x => decide (T < x.2)) ∧ (∀ x, dv.ownBlock = some x → ¬ lw.ownBlock = some x) ∧ Below W2.heap.size W2 wr) (fun _ _ iv _ => n - (RowKit.intOf iv).toNat)
  case atStart => exact ⟨_, _, 0, rfl, rfl, rfl, Nat.zero_le _, ⟨rfl, .inl ⟨rfl, rfl⟩⟩, ⟨rfl, .inl ⟨rfl, rfl⟩⟩, (fun x hx => by cases hx), Below.refl _ _⟩
  case round =>
    obtain ⟨dv, lw, j, hd1, hl1, hiv, hjn, o1, o2, hd, hb⟩ := hrel
    subst hd1 hl1 hiv
    by_cases hjx : j < n
    · have hil : j < m.length := by have := HB.out.2.1; omega
      obtain ⟨g, ela, k1, t1⟩ : ∃ g, la = some ⟨g, 0, none⟩ ∧ W2.cell? ⟨g, j * 2, none⟩ = some (ek (el m j).1) ∧ W2.cell? ⟨g, j * 2 + 1, none⟩ = some (er (el m j).2) := by
        rcases src_own H2.out.2.2.2.2.1.r with ⟨h1, _⟩ | ⟨g, c, h1, h2⟩
        · rw [h1] at hil; simp at hil
        · cases h1; exact ⟨g, rfl, h2 j hil⟩
      have k2 := (hb.cell (World.block_lt_of_cell? _ _ k1)).trans k1
      have t2 := (hb.cell (World.block_lt_of_cell? _ _ t1)).trans t1
      have hy1 := fun (q : K × Int → Bool) (e : q (el m j) = true) => filt_yes hil e
      have hy2 := fun (q : K × Int → Bool) (e : q (el m j) = false) => filt_no hil e
      obtain ⟨x, hx⟩ : ∃ x, x = el m j := ⟨_, rfl⟩
      rw [← hx] at k2 t2 hy1 hy2
      obtain ⟨xk, xt⟩ := x
      subst ela
      obtain ⟨Z, hZ⟩ : ∃ Z, Z = wr.alloc (.cells #[.string ⟨xk.toArray⟩, .int .i64 xt] 42) := ⟨_, rfl⟩
      have hsz : wr.heap.size + 1 = Z.heap.size := by rw [hZ]; simp
      have hbZ : Below wr.heap.size wr Z := by rw [hZ]; exact (Below.refl _ wr).alloc (Nat.le_refl _) _
      have z1 : Own Z W2.heap.size dv _ := own_kept o1 fun x hx => hbZ.block x (own_cell o1 hx).2.1
      have z2 : Own Z W2.heap.size lw _ := own_kept o2 fun x hx => hbZ.block x (own_cell o2 hx).2.1
      have hBZ : W2.heap.size ≤ Z.heap.size := Nat.le_trans hb.size hbZ.size
      have hl1 : ((m.take j).filter fun x => decide (x.2 ≤ T)).length ≤ 1000000 := by
        have e1 := List.length_filter_le (fun x : K × Int => decide (x.2 ≤ T)) (m.take j)
        have e2 := HB.out.2.2.2.2
        rw [List.length_take] at e1; omega
      have hl2 : ((m.take j).filter fun x => decide (T < x.2)).length ≤ 1000000 := by
        have e1 := List.length_filter_le (fun x : K × Int => decide (T < x.2)) (m.take j)
        have e2 := HB.out.2.2.2.2
        rw [List.length_take] at e1; omega
      have hbn := hb.trans (hbZ.mono hb.size)
      have hic : ((j : Nat) : Int) < ((n : Nat) : Int) := by omega
      have hj0 : (0 : Int) ≤ ((j : Nat) : Int) := by omega
      have hj4 : ((j : Nat) : Int) ≤ 1000000 := by have := HB.out.2.1; have := HB.out.2.2.2.2; omega
      have HY := Lib.hid (And.intro hZ hsz)
      unfold ek at k2
      unfold er at t2
      dsimp only at k2 t2
      by_cases hdue : xt ≤ T
      · have hq1 := hy1 (fun x => decide (x.2 ≤ T)) (decide_eq_true hdue)
        have hq2 := hy2 (fun x => decide (T < x.2)) (decide_eq_false (by show ¬ T < xt; omega))
        obtain ⟨u2, Z2, r1, o3, o4, hd2, b2⟩ := push_two Z z1 z2 hd hBZ hl1 xk xt 29
        rw [← hq1] at o3
        rw [← hq2] at o4
        have HO := Lib.hid (And.intro o3 (And.intro o4 (And.intro hd2 (And.intro (hbn.trans b2) hjx))))
        unfold ek er at r1
        clear o1 o2 hd hb z1 z2 hl1 hl2 hbn hjx hjn hil hx hy1 hy2 hq1 hq2 o3 o4 hd2 b2 k1 t1 hbZ hBZ hZ hsz
        go_wp2_with (at_builtin; rw [← HY.out.1, HY.out.2]; refine BigFrame.wpList_want (by rfl) fun _ hK => wp_append' _ _ _ rfl rfl rfl r1 (hK _ _ ?_); clear hK)
        go_roundw
        case rel => exact ⟨_, _, j + 1, rfl, rfl, by simp, HO.out.2.2.2.2, HO.out.1, HO.out.2.1, HO.out.2.2.1, HO.out.2.2.2.1⟩
        case measure => have := HO.out.2.2.2.2; simp [RowKit.intOf]; omega
      · have hlate : T < xt := by omega
        have hq1 := hy2 (fun x => decide (x.2 ≤ T)) (decide_eq_false hdue)
        have hq2 := hy1 (fun x => decide (T < x.2)) (decide_eq_true hlate)
        obtain ⟨u2, Z2, r1, o3, o4, hd2, b2⟩ := push_two Z z2 z1 (fun x h1 h2 => hd x h2 h1) hBZ hl2 xk xt 29
        rw [← hq2] at o3
        rw [← hq1] at o4
        have HO := Lib.hid (And.intro o4 (And.intro o3 (And.intro (fun x h1 h2 => hd2 x h2 h1) (And.intro (hbn.trans b2) hjx))))
        unfold ek er at r1
        clear o1 o2 hd hb z1 z2 hl1 hl2 hbn hjx hjn hil hx hy1 hy2 hq1 hq2 o3 o4 hd2 b2 k1 t1 hbZ hBZ hdue hZ hsz
        go_wp2_with (at_builtin; rw [← HY.out.1, HY.out.2]; refine BigFrame.wpList_want (by rfl) fun _ hK => wp_append' _ _ _ rfl rfl rfl r1 (hK _ _ ?_); clear hK)
        go_roundw
        case rel => exact ⟨_, _, j + 1, rfl, rfl, by simp, HO.out.2.2.2.2, HO.out.1, HO.out.2.1, HO.out.2.2.1, HO.out.2.2.2.1⟩
        case measure => have := HO.out.2.2.2.2; simp [RowKit.intOf]; omega
    · have hje : n = j := by omega
      subst hje
      obtain ⟨hp1, hs1, hg1, hg2, p2, f2⟩ := H2.out
      rw [HB.out.2.1, List.take_length] at o1 o2
      have p3 := p2.old hb
      have m0 := p3.cells.1
      have m2 := p3.cells.2.2.1
      have fz := p3.cells.2.2.2
      have hN3 : ∀ x, (N x ∨ x = ab) → x < W2.heap.size := fun x e => Nat.lt_of_lt_of_le (HB.out.2.2.1 x e) f2.size
      have pS := p2.set (Fr.of_below hb) (own_base o2 (by have : V.heap.size ≤ W2.heap.size := f2.size; have := HB.out.2.2.2.1; have := p2.a.1; omega)) (fun x hx => .inr (own_cell o2 hx).1) hN3
      have pT := pS.1.setNow (t := T)
      have fT := Fo.trans pS.2 pT.2
      obtain ⟨a4, c4, e4⟩ := own_shape o2
      obtain ⟨n4, hn4⟩ : ∃ n4, n4 = (m.filter fun x => decide (T < x.2)).length := ⟨_, rfl⟩
      rw [← hn4] at e4
      subst e4
      obtain ⟨W6, hW6⟩ : ∃ W, W = (wr.setCell ⟨mb, 2, none⟩ (.slice a4 n4 c4)).setCell ⟨mb, 0, none⟩ (.int .i64 T) := ⟨_, rfl⟩
      rw [← hW6] at pT fT
      have hot : ∀ x, x ≠ mb → W6.heap[x]? = wr.heap[x]? := fun x hx => by rw [hW6]; exact (heap_setCell_other _ _ _ _ hx).trans (heap_setCell_other _ _ _ _ hx)
      have hsd : ∀ x, W2.heap.size ≤ x → x ≠ mb := fun x hx e => by have := p2.lt; omega
      have d6 : Own W6 W2.heap.size dv _ := own_kept o1 fun x hx => hot x (hsd x (own_cell o1 hx).1)
      have g6 : Src W6 gv ls := hg1.kept' fun x hx => (hot x fun e => by have h1 := (hg2 x hx).1; have h2 := HB.out.2.2.2.1; have h3 : V.heap.size ≤ x := h1; omega).trans (hb.block x (hg2 x hx).2)
      have hl3 : (m.filter fun x => decide (x.2 ≤ T)).length ≤ 1000 := by
        have e1 := List.length_filter_le (fun x : K × Int => decide (x.2 ≤ T)) m
        have e2 := HB.out.2.2.2.2; omega
      have hSo := sorted_any W6 (src_own d6) hl3
      have hll : (m.filter fun x => decide (T < x.2)).length ≤ m.length + 1 := by
        have e1 := List.length_filter_le (fun x : K × Int => decide (T < x.2)) m; omega
      have hgb : ∀ x, Sb gv x → x < W6.heap.size := fun x hx => Nat.lt_of_lt_of_le (hg2 x hx).2 fT.size
      have hls : ls.length ≤ 1000 := by rw [hp1.length_eq]; exact hl3
      have HT := Lib.hid (And.intro hp1 (And.intro hs1 (And.intro g6 (And.intro pT.1 (And.intro (Fo.trans f2 fT) (And.intro hll (And.intro hgb hls)))))))
      clear hp1 hs1 hg1 hg2 p2 f2 p3 hN3 pS pT fT hot hsd d6 g6 hl3 hll hgb hls o1 o2 hd hb H2 hn4 hjn hjx
      go_wp2_with fail
      rw [← hW6]
      clear hW6 m0 m2 fz
      refine hSo.mono ?_
      rintro e W7 ⟨v7, l7, rfl, p7, s7, o7, b7⟩
      obtain ⟨hp1, hs1, g6, pT, fT, hll, hgb, hls⟩ := HT.out
      have e7 : l7 = ls := srt_unique s7 hs1 (p7.trans hp1.symm)
      subst e7
      have hSa := same_any W7 (g6.kept' fun x hx => b7.block x (hgb x hx)) (src_own o7) (by omega)
      have HU := Lib.hid b7
      clear hp1 hs1 g6 pT fT hll hgb hls p7 s7 o7 b7 hSo
      go_wp2_with fail
      refine hSa.mono ?_
      rintro e W8 ⟨rfl, d, rfl⟩
      go_wp2_with fail
      go_ret
      obtain ⟨hp1, hs1, g6, pT, fT, hll, hgb, hls⟩ := HT.out
      have b8 : Below W6.heap.size W6 (W7.drewN d) := ⟨HU.out.os, HU.out.tape, HU.out.output, HU.out.size, HU.out.block⟩
      exact done_of (by simp) (pT.old b8) (fun x e => .inl e) hll (Fr.of_below HB.out.1) (Fo.trans (Fo.trans (Fr.of_below (below_drewN V (q1 + nq))) fT) (Fr.of_below b8))
end Go.Proofs.Ytcafiehlhdoibaa.Wh
