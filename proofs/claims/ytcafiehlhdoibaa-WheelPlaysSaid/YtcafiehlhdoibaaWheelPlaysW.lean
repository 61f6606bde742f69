
/- WheelPlays, walked -/
import Derived.Test.YtcafiehlhdoibaaWh33
import Derived.Test.YtcafiehlhdoibaaWhP
namespace Go.Proofs.Ytcafiehlhdoibaa.Wh
open Go.RowKit Go.Lib Go.Sort Go.Maps Hp Ht Rg
set_option linter.unusedVariables false
attribute [local go_sem] Oper.semAt_some
set_option maxRecDepth 20000
set_option maxHeartbeats 16000000 in
theorem plays_any (w : World) (now most : Int) (hnow : -9223372036854775808 ≤ now ∧ now ≤ 9223372036854775807) (hmost : -9223372036854775808 ≤ most ∧ most ≤ 9223372036854775807) (a : Option Addr) (n c : Nat) (hi : WhP.InA w a n c) :
    Calls Try.prog 3 #[.int .i64 now, .int .i64 most, .slice a n c] w fun e w' => e = .returned (.bool true) ∧ Below w.heap.size w w' := by
  have hmix : Try.prog.follows .mixedOrders = true := by kernel_rfl
  have hLV := fun W => lives_any W
  by_cases hbig : 60 < n
  · have hb2 : (60 : Int) < ((n : Nat) : Int) := by omega
    clear hi hbig hnow hmost
    refine (callsIn_wide (n := 3)).1 ?_
    refine callsIn_of_wp_marks Try.func3 rfl trivial ?_ rfl
    simp only [Try.ntmps3, List.size_toArray, List.length_cons, List.length_nil, Nat.reduceAdd, Nat.reduceSub, Array.replicate_succ, Array.replicate_zero, List.push_toArray, List.append_toArray, List.nil_append, List.cons_append]
    refine wpIn_wide.2 ?_
    go_wp2_with fail
    refine (hLV _).mono ?_
    rintro e w1 ⟨rfl, b1⟩
    have HB := Lib.hid b1
    clear b1
    go_wp2_with fail
    refine (hLV _).mono ?_
    rintro e w2 ⟨rfl, b2⟩
    go_wp2_with fail
    exact leaveVs (Ds := []) (B := w.heap.size) rfl rfl w2 (Recs.nil _ _) fun X' b => ⟨rfl, HB.out.trans ((b2.mono HB.out.size).trans b)⟩
  have hn1 : ((n : Nat) : Int) ≤ 60 := by omega
  by_cases hbad : (now < 0 ∨ MT < now) ∨ most < 1 ∨ 65536 < most
  · have hN := fun W => new_bad W hbad
    have HB := Lib.hid hbad
    clear hi hbig hnow hmost
    by_cases hc0 : now < 0
    · clear hbad
      refine (callsIn_wide (n := 3)).1 ?_
      refine callsIn_of_wp_marks Try.func3 rfl trivial ?_ rfl
      simp only [Try.ntmps3, List.size_toArray, List.length_cons, List.length_nil, Nat.reduceAdd, Nat.reduceSub, Array.replicate_succ, Array.replicate_zero, List.push_toArray, List.append_toArray, List.nil_append, List.cons_append]
      refine wpIn_wide.2 ?_
      go_wp2_with fail
      refine (hLV _).mono ?_
      rintro e w1 ⟨rfl, b1⟩
      have H1 := Lib.hid b1
      clear b1
      go_wp2_with fail
      refine (hN _).mono ?_
      rintro e w2 ⟨rfl, rfl⟩
      go_wp2_with fail
      exact leaveVs (Ds := []) (B := w.heap.size) rfl rfl w2 (Recs.nil _ _) fun X' b => ⟨rfl, H1.out.trans b⟩
    have hd0 : 0 ≤ now := by omega
    by_cases hc1 : 1099511627776 < now
    · clear hbad
      refine (callsIn_wide (n := 3)).1 ?_
      refine callsIn_of_wp_marks Try.func3 rfl trivial ?_ rfl
      simp only [Try.ntmps3, List.size_toArray, List.length_cons, List.length_nil, Nat.reduceAdd, Nat.reduceSub, Array.replicate_succ, Array.replicate_zero, List.push_toArray, List.append_toArray, List.nil_append, List.cons_append]
      refine wpIn_wide.2 ?_
      go_wp2_with fail
      refine (hLV _).mono ?_
      rintro e w1 ⟨rfl, b1⟩
      have H1 := Lib.hid b1
      clear b1
      go_wp2_with fail
      refine (hN _).mono ?_
      rintro e w2 ⟨rfl, rfl⟩
      go_wp2_with fail
      exact leaveVs (Ds := []) (B := w.heap.size) rfl rfl w2 (Recs.nil _ _) fun X' b => ⟨rfl, H1.out.trans b⟩
    have hd1 : now ≤ 1099511627776 := by omega
    by_cases hc2 : most < 1
    · clear hbad
      refine (callsIn_wide (n := 3)).1 ?_
      refine callsIn_of_wp_marks Try.func3 rfl trivial ?_ rfl
      simp only [Try.ntmps3, List.size_toArray, List.length_cons, List.length_nil, Nat.reduceAdd, Nat.reduceSub, Array.replicate_succ, Array.replicate_zero, List.push_toArray, List.append_toArray, List.nil_append, List.cons_append]
      refine wpIn_wide.2 ?_
      go_wp2_with fail
      refine (hLV _).mono ?_
      rintro e w1 ⟨rfl, b1⟩
      have H1 := Lib.hid b1
      clear b1
      go_wp2_with fail
      refine (hN _).mono ?_
      rintro e w2 ⟨rfl, rfl⟩
      go_wp2_with fail
      exact leaveVs (Ds := []) (B := w.heap.size) rfl rfl w2 (Recs.nil _ _) fun X' b => ⟨rfl, H1.out.trans b⟩
    have hd2 : 1 ≤ most := by omega
    by_cases hc3 : 65536 < most
    · clear hbad
      refine (callsIn_wide (n := 3)).1 ?_
      refine callsIn_of_wp_marks Try.func3 rfl trivial ?_ rfl
      simp only [Try.ntmps3, List.size_toArray, List.length_cons, List.length_nil, Nat.reduceAdd, Nat.reduceSub, Array.replicate_succ, Array.replicate_zero, List.push_toArray, List.append_toArray, List.nil_append, List.cons_append]
      refine wpIn_wide.2 ?_
      go_wp2_with fail
      refine (hLV _).mono ?_
      rintro e w1 ⟨rfl, b1⟩
      have H1 := Lib.hid b1
      clear b1
      go_wp2_with fail
      refine (hN _).mono ?_
      rintro e w2 ⟨rfl, rfl⟩
      go_wp2_with fail
      exact leaveVs (Ds := []) (B := w.heap.size) rfl rfl w2 (Recs.nil _ _) fun X' b => ⟨rfl, H1.out.trans b⟩
    have hd3 : most ≤ 65536 := by omega
    exact absurd hbad (by unfold MT; omega)
  have hn2 : 0 ≤ now := by omega
  have hn3 : now ≤ 1099511627776 := by unfold MT at hbad; omega
  have hm1 : 1 ≤ most := by omega
  have hm2 : most ≤ 65536 := by omega
  obtain ⟨mo, rfl⟩ := Int.eq_ofNat_of_zero_le (show 0 ≤ most by omega)
  have hmo : 1 ≤ mo ∧ mo ≤ 65536 := by omega
  clear hbad hnow hmost hbig
  refine (callsIn_wide (n := 3)).1 ?_
  refine callsIn_of_wp_marks Try.func3 rfl trivial ?_ rfl
  simp only [Try.ntmps3, List.size_toArray, List.length_cons, List.length_nil, Nat.reduceAdd, Nat.reduceSub, Array.replicate_succ, Array.replicate_zero, List.push_toArray, List.append_toArray, List.nil_append, List.cons_append]
  refine wpIn_wide.2 ?_
  go_wp2_with fail
  refine (hLV _).mono ?_
  rintro e w1 ⟨rfl, b1⟩
  have hN := new_ow w1 (now := now) (most := mo) ⟨hn2, by unfold MT; omega⟩ hmo.1 hmo.2
  have HB := Lib.hid (And.intro b1 (And.intro hmo hi))
  clear b1 hmo hi hLV
  go_wp2_with fail
  refine hN.mono ?_
  rintro e w2 ⟨wb, rfl, o2, b2⟩
  obtain ⟨w3, hw3⟩ : ∃ W, W = w2.alloc (.cells #[.int .i64 now, .int .i64 ((mo : Nat) : Int), .slice none 0 0] 31) := ⟨_, rfl⟩
  obtain ⟨mb, hmb⟩ : ∃ b, b = w2.heap.size := ⟨_, rfl⟩
  have p3 := Pl.start (o2.base HB.out.1.size) (Nat.le_trans HB.out.1.size b2.size)
  have b3 : Below w.heap.size w w3 := by rw [hw3]; exact (HB.out.1.trans (b2.mono HB.out.1.size)).alloc (Nat.le_trans HB.out.1.size b2.size) _
  rw [← hw3, ← hmb] at p3
  have H3 := Lib.hid (And.intro p3 b3)
  clear p3 b3 o2 b2 hN
  go_wp2_with fail
  rw [← hw3, ← hmb]
  clear hw3 hmb
  refine wp_loop (PI w wb mb mo a n c) (fun a' _ => PM n a') ?hstart ?hround
  case hstart => exact PI.mk' _ 0 _ _ [] [] ⟨Nat.zero_le _, Nat.le_refl _, H3.out.1.less (fun x e => by cases e), Recs.nil _ _, H3.out.2⟩ (by kernel_rfl)
  case hround =>
    clear H3
    rintro a1 wr ⟨x, j, lv, nw, m, Ds, ⟨hjn, hmj, p, hR, hb⟩, rfl⟩
    have hj0 : (0 : Int) ≤ ((j : Nat) : Int) := by omega
    by_cases hjx : j < n
    rotate_left
    · have hjc : ((n : Nat) : Int) ≤ ((j : Nat) : Int) := by omega
      have HZ := Lib.hid (And.intro hR hb)
      clear p hR hb hjn hmj
      go_wp2_with fail
      exact leaveVs rfl rfl Ds _ HZ.out.1 fun X' b => ⟨rfl, HZ.out.2.trans b⟩
    obtain ⟨g, o, kd, sb, tk, ha, hs, hkd, htk, c1, c2, c3⟩ : ∃ (g o : Nat) (kd : Int) (sb : ByteArray) (tk : Int), a = some ⟨g, o, none⟩ ∧ sb.size ≤ maxLen ∧ (-9223372036854775808 ≤ kd ∧ kd ≤ 9223372036854775807) ∧ (-9223372036854775808 ≤ tk ∧ tk ≤ 9223372036854775807) ∧
        wr.cell? ⟨g, o + j * 3, none⟩ = some (.int .i64 kd) ∧ wr.cell? ⟨g, o + j * 3 + 1, none⟩ = some (.string sb) ∧ wr.cell? ⟨g, o + j * 3 + 2, none⟩ = some (.int .i64 tk) := by
      rcases HB.out.2.2.2.2 with h | ⟨g, o, e, h⟩
      · omega
      · obtain ⟨kd, sb, tk, h1, h2, h3, h4, h5, h6⟩ := h j hjx
        have e4 := (hb.cell (World.block_lt_of_cell? _ _ h4)).trans h4
        have e5 := (hb.cell (World.block_lt_of_cell? _ _ h5)).trans h5
        have e6 := (hb.cell (World.block_lt_of_cell? _ _ h6)).trans h6
        rw [← Nat.add_assoc] at e4 e5 e6
        exact ⟨g, o, kd, sb, tk, e, h1, h2, h3, e4, e5, e6⟩
    subst ha
    obtain ⟨k, rfl⟩ : ∃ k : K, sb = ⟨k.toArray⟩ := ⟨sb.data.toList, by cases sb; simp⟩
    have hjc : ((j : Nat) : Int) < ((n : Nat) : Int) := by omega
    have hj4 : ((j : Nat) : Int) ≤ 60 := by omega
    obtain ⟨V, hV⟩ : ∃ V, V = wr.alloc (.cells #[.int .i64 kd, .string ⟨k.toArray⟩, .int .i64 tk] 33) := ⟨_, rfl⟩
    obtain ⟨ab, hab⟩ : ∃ ab, ab = wr.heap.size := ⟨_, rfl⟩
    have hbV : Below wr.heap.size wr V := by rw [hV]; exact (Below.refl _ _).alloc (Nat.le_refl _) _
    have hA : V.heap[ab]? = some (.cells #[.int .i64 kd, .string ⟨k.toArray⟩, .int .i64 tk] 33 (0, 0)) := by rw [hV, hab]; exact (MapKept.heap_alloc _ _).1
    have pV := p.also (N' := fun x => x = ab) hbV (fun x e => by omega)
    have rV := hR.below hbV
    have bV := hb.trans (hbV.mono hb.size)
    have zV : V.heap.size = ab + 1 := by rw [hV, hab]; simp
    have hN1 : ∀ x, (x ∈ Ds ∨ x = ab) → x < V.heap.size := fun x e => by
      rcases e with e | e
      · exact (Array.getElem?_eq_some_iff.1 (rV.at' x e).2).1
      · omega
    have hDn : ab ∉ Ds := fun e => by have := (Array.getElem?_eq_some_iff.1 (hR.at' ab e).2).1; omega
    have HR := Lib.hid (And.intro pV (And.intro rV (And.intro bV (And.intro hN1 (And.intro hA (And.intro hmj hjx))))))
    have hbw := hb.size
    clear p hR hb hbV pV rV bV hN1 hjn hmj hA hs hkd
    by_cases h1 : 40 < k.length
    · have h1c : (40 : Int) < ((k.length : Nat) : Int) := by omega
      clear h1 hab
      go_wp2_with fail
      rw [← hV]
      exact leaveVs rfl rfl Ds V HR.out.2.1 fun X' b => ⟨rfl, HR.out.2.2.1.trans b⟩
    have h1c : ((k.length : Nat) : Int) ≤ 40 := by omega
    by_cases h2 : tk < -1125899906842624
    · clear h1 hab
      go_wp2_with fail
      rw [← hV]
      exact leaveVs rfl rfl Ds V HR.out.2.1 fun X' b => ⟨rfl, HR.out.2.2.1.trans b⟩
    have h2c : -1125899906842624 ≤ tk := by omega
    by_cases h3 : 1125899906842624 < tk
    · clear h1 hab
      go_wp2_with fail
      rw [← hV]
      exact leaveVs rfl rfl Ds V HR.out.2.1 fun X' b => ⟨rfl, HR.out.2.2.1.trans b⟩
    have h3c : tk ≤ 1125899906842624 := by omega
    clear h2 h3 htk
    have hkk : wk k := by unfold wk maxLen; omega
    clear h1
    go_wp2_with fail
    rw [← hV, ← hab]
    have HAB := Lib.hid (And.intro hab zV)
    clear hV hab c1 c2 c3
    have pD : Pl w.heap.size (fun x => x ∈ Ds ∨ x = ab) V.drew wb mb lv mo nw m nw m := HR.out.1.old ⟨rfl, rfl, rfl, Nat.le_refl _, fun _ _ => rfl⟩
    have hDo := do_any pD (by show w.heap.size ≤ V.heap.size; have h1 := HAB.out.1; have h2 := HAB.out.2; omega) HR.out.2.2.2.1 (by have := HR.out.2.2.2.2.2; omega) hkk (kind := kd) ⟨h2c, h3c⟩ HB.out.2.1
    have a0 : V.cell? ⟨ab, 0, none⟩ = some (.int .i64 kd) := by rw [cell_of_row _ _ _ _ _ _ HR.out.2.2.2.2.1]; rfl
    have a1 : V.cell? ⟨ab, 1, none⟩ = some (.string ⟨k.toArray⟩) := by rw [cell_of_row _ _ _ _ _ _ HR.out.2.2.2.2.1]; rfl
    have a2 : V.cell? ⟨ab, 2, none⟩ = some (.int .i64 tk) := by rw [cell_of_row _ _ _ _ _ _ HR.out.2.2.2.2.1]; rfl
    unfold ek at hDo
    clear pD h1c h2c h3c zV
    refine begin' 99 (fun _ => True) hmix trivial (fun _ => ?_)
    refine Ht.takeN (i := 0) ⟨some 78, _, _, _, _, _⟩ (.pointer (some ⟨wb, 0, none⟩)) rfl (Nat.le_of_ble_eq_true (by kernel_rfl)) (by kernel_rfl) (by kernel_rfl) (by kernel_rfl) (by kernel_rfl) trivial (Or.inl ⟨by rfl, by (intro X hX; go_simp)⟩) ?_
    simp only [Act.put, List.setIfInBounds_toArray, List.set_cons_zero, List.set_cons_succ]
    refine Ht.takeN (i := 1) ⟨some 79, _, _, _, _, _⟩ (.pointer (some ⟨mb, 0, none⟩)) rfl (Nat.le_of_ble_eq_true (by kernel_rfl)) (by kernel_rfl) (by kernel_rfl) (by kernel_rfl) (by kernel_rfl) trivial (Or.inl ⟨by rfl, by (intro X hX; go_simp)⟩) ?_
    simp only [Act.put, List.setIfInBounds_toArray, List.set_cons_zero, List.set_cons_succ]
    refine later [3, 4, 5, 6, 7, 8, 9, 10, 11, 12, 13, 14, 15, 16, 17, 18, 19, 20, 21, 22, 23] (fun Z => Z.cell? ⟨ab, 0, none⟩ = some (.int .i64 kd) ∧ Z.cell? ⟨ab, 1, none⟩ = some (.string ⟨k.toArray⟩) ∧ Z.cell? ⟨ab, 2, none⟩ = some (.int .i64 tk)) (⟨a0, a1, a2⟩) (fun hS0 => ?_)
    refine Ht.takeS 10 (i := 2) ⟨some 80, _, _, _, _, _⟩ (.agg #[.int .i64 kd, .string ⟨k.toArray⟩, .int .i64 tk]) rfl (by kernel_rfl) (by kernel_rfl) (by kernel_rfl) (by kernel_rfl) (by kernel_rfl) hS0 (Or.inl ⟨by rfl, by (intro X hX; have := hX.1; have := hX.2.1; have := hX.2.2; go_simp)⟩) ?_
    simp only [Act.put, List.setIfInBounds_toArray, List.set_cons_zero, List.set_cons_succ]
    refine Ht.stepS (i := 3) ⟨some 81, _, _, _, _, _⟩ rfl (by kernel_rfl) (by rfl) (fun K hK => ?_)
    refine Ht.enter 9 #[.pointer (some ⟨wb, 0, none⟩), .pointer (some ⟨mb, 0, none⟩), .agg #[.int .i64 kd, .string ⟨k.toArray⟩, .int .i64 tk]] (by have hen := fun args w => enters_of (P := Try.prog) Try.func9 (by kernel_rfl) rfl args w; go_simp) (hDo) ?_
    rintro e W2 ⟨rfl, lv2, nw2, m2, p2, hl2, f2⟩
    obtain ⟨la2, lc2, hlv2⟩ := own_shape p2.r
    obtain ⟨n2, hn2⟩ : ∃ n2, n2 = m2.length := ⟨_, rfl⟩
    rw [← hn2] at hlv2
    subst hlv2
    have d0 := p2.cells.1
    have d2 := p2.cells.2.2.1
    obtain ⟨S2, q2, _⟩ := p2.w
    have hNow := now_any q2
    have hLen := len_any q2
    rw [← hn2] at hLen
    have H2 := Lib.hid (And.intro p2 (And.intro hl2 (And.intro f2 hn2)))
    clear p2 hl2 f2 hn2 q2
    refine ⟨_, rfl, hK _ _ (fun hn => absurd (by decide) hn) (fun hnx => ?_)⟩
    clear hK K hnx
    simp only [Act.put, List.setIfInBounds_toArray, List.set_cons_zero, List.set_cons_succ]
    refine Ht.stepS (i := 4) ⟨some 82, _, _, _, _, _⟩ rfl (by kernel_rfl) (by rfl) (fun K hK => ?_)
    go_simp
    refine hK _ _ (fun hn => absurd (by decide) hn) (fun hnx => ?_)
    clear hK K hnx
    try simp only [Act.put, List.setIfInBounds_toArray, List.set_cons_zero, List.set_cons_succ]
    refine Ht.stepS (i := 5) ⟨some 83, _, _, _, _, _⟩ rfl (by kernel_rfl) (by rfl) (fun K hK => ?_)
    go_simp
    refine hK _ _ (fun hn => absurd (by decide) hn) (fun hnx => ?_)
    clear hK K hnx
    try simp only [Act.put, List.setIfInBounds_toArray, List.set_cons_zero, List.set_cons_succ]
    refine relate [] (fun Z => Z.cell? ⟨mb, 0, none⟩ = some (.int .i64 nw2) ∧ Z.cell? ⟨mb, 2, none⟩ = some (.slice la2 n2 lc2)) (by kernel_rfl) ⟨d0, d2⟩ (fun hS1 => ?_)
    refine Ht.takeS 10 (i := 6) ⟨some 84, _, _, _, _, _⟩ (.pointer (some ⟨wb, 0, none⟩)) rfl (by kernel_rfl) (by kernel_rfl) (by kernel_rfl) (by kernel_rfl) (by kernel_rfl) hS1 (Or.inl ⟨by rfl, by (intro X hX; go_simp)⟩) ?_
    simp only [Act.put, List.setIfInBounds_toArray, List.set_cons_zero, List.set_cons_succ]
    refine Ht.takeS 10 (i := 8) ⟨some 86, _, _, _, _, _⟩ (.pointer (some ⟨mb, 0, none⟩)) rfl (by kernel_rfl) (by kernel_rfl) (by kernel_rfl) (by kernel_rfl) (by kernel_rfl) hS1 (Or.inl ⟨by rfl, by (intro X hX; go_simp)⟩) ?_
    simp only [Act.put, List.setIfInBounds_toArray, List.set_cons_zero, List.set_cons_succ]
    refine Ht.takeS 10 (i := 9) ⟨some 87, _, _, _, _, _⟩ (.pointer (some ⟨mb, 0, none⟩)) rfl (by kernel_rfl) (by kernel_rfl) (by kernel_rfl) (by kernel_rfl) (by kernel_rfl) hS1 (Or.inl ⟨by rfl, by (intro X hX; go_simp)⟩) ?_
    simp only [Act.put, List.setIfInBounds_toArray, List.set_cons_zero, List.set_cons_succ]
    refine Ht.takeS 10 (i := 10) ⟨some 88, _, _, _, _, _⟩ (.pointer (some ⟨mb, 0, none⟩)) rfl (by kernel_rfl) (by kernel_rfl) (by kernel_rfl) (by kernel_rfl) (by kernel_rfl) hS1 (Or.inl ⟨by rfl, by (intro X hX; go_simp)⟩) ?_
    simp only [Act.put, List.setIfInBounds_toArray, List.set_cons_zero, List.set_cons_succ]
    refine Ht.takeS 10 (i := 11) ⟨some 89, _, _, _, _, _⟩ (.int .i64 nw2) rfl (by kernel_rfl) (by kernel_rfl) (by kernel_rfl) (by kernel_rfl) (by kernel_rfl) hS1 (Or.inl ⟨by rfl, by (intro X hX; have := hX.1; go_simp)⟩) ?_
    simp only [Act.put, List.setIfInBounds_toArray, List.set_cons_zero, List.set_cons_succ]
    refine Ht.stepS (i := 7) ⟨some 85, _, _, _, _, _⟩ rfl (by kernel_rfl) (by rfl) (fun K hK => ?_)
    refine Ht.enter 10 #[.pointer (some ⟨wb, 0, none⟩)] (by have hen := fun args w => enters_of (P := Try.prog) Try.func10 (by kernel_rfl) rfl args w; go_simp) (hNow) ?_
    rintro e W3 ⟨rfl, hW3⟩
    obtain rfl := hW3.symm
    refine ⟨_, rfl, hK _ _ (fun hn => hS1) (fun hnx => ?_)⟩
    clear hK K hnx
    simp only [Act.put, List.setIfInBounds_toArray, List.set_cons_zero, List.set_cons_succ]
    refine Ht.stepS (i := 12) ⟨some 90, _, _, _, _, _⟩ rfl (by kernel_rfl) (by rfl) (fun K hK => ?_)
    go_simp
    refine hK _ _ (fun hn => hS1) (fun hnx => ?_)
    clear hK K hnx
    try simp only [Act.put, List.setIfInBounds_toArray, List.set_cons_zero, List.set_cons_succ]
    refine Ht.stepS (i := 13) ⟨some 91, _, _, _, _, _⟩ rfl (by kernel_rfl) (by rfl) (fun K hK => ?_)
    go_simp
    refine hK _ _ (fun hn => hS1) (fun hnx => ?_)
    clear hK K hnx
    try simp only [Act.put, List.setIfInBounds_toArray, List.set_cons_zero, List.set_cons_succ]
    refine Ht.stepS (i := 14) ⟨some 92, _, _, _, _, _⟩ rfl (by kernel_rfl) (by rfl) (fun K hK => ?_)
    go_simp
    refine hK _ _ (fun hn => hS1) (fun hnx => ?_)
    clear hK K hnx
    try simp only [Act.put, List.setIfInBounds_toArray, List.set_cons_zero, List.set_cons_succ]
    refine Ht.takeS 10 (i := 15) ⟨some 93, _, _, _, _, _⟩ (.pointer (some ⟨wb, 0, none⟩)) rfl (by kernel_rfl) (by kernel_rfl) (by kernel_rfl) (by kernel_rfl) (by kernel_rfl) hS1 (Or.inl ⟨by rfl, by (intro X hX; go_simp)⟩) ?_
    simp only [Act.put, List.setIfInBounds_toArray, List.set_cons_zero, List.set_cons_succ]
    refine Ht.takeS 10 (i := 17) ⟨some 95, _, _, _, _, _⟩ (.pointer (some ⟨mb, 0, none⟩)) rfl (by kernel_rfl) (by kernel_rfl) (by kernel_rfl) (by kernel_rfl) (by kernel_rfl) hS1 (Or.inl ⟨by rfl, by (intro X hX; go_simp)⟩) ?_
    simp only [Act.put, List.setIfInBounds_toArray, List.set_cons_zero, List.set_cons_succ]
    refine Ht.takeS 10 (i := 18) ⟨some 96, _, _, _, _, _⟩ (.pointer (some ⟨mb, 0, none⟩)) rfl (by kernel_rfl) (by kernel_rfl) (by kernel_rfl) (by kernel_rfl) (by kernel_rfl) hS1 (Or.inl ⟨by rfl, by (intro X hX; go_simp)⟩) ?_
    simp only [Act.put, List.setIfInBounds_toArray, List.set_cons_zero, List.set_cons_succ]
    refine Ht.takeS 10 (i := 19) ⟨some 97, _, _, _, _, _⟩ (.pointer (some ⟨mb, 2, none⟩)) rfl (by kernel_rfl) (by kernel_rfl) (by kernel_rfl) (by kernel_rfl) (by kernel_rfl) hS1 (Or.inl ⟨by rfl, by (intro X hX; go_simp)⟩) ?_
    simp only [Act.put, List.setIfInBounds_toArray, List.set_cons_zero, List.set_cons_succ]
    refine Ht.takeS 10 (i := 20) ⟨some 98, _, _, _, _, _⟩ (.slice la2 n2 lc2) rfl (by kernel_rfl) (by kernel_rfl) (by kernel_rfl) (by kernel_rfl) (by kernel_rfl) hS1 (Or.inl ⟨by rfl, by (intro X hX; have := hX.2; go_simp)⟩) ?_
    simp only [Act.put, List.setIfInBounds_toArray, List.set_cons_zero, List.set_cons_succ]
    refine Ht.takeS 10 (i := 21) ⟨some 99, _, _, _, _, _⟩ (.int .i64 ((n2 : Nat) : Int)) rfl (by kernel_rfl) (by kernel_rfl) (by kernel_rfl) (by kernel_rfl) (by kernel_rfl) hS1 (Or.inl ⟨by rfl, by (intro X hX; go_simp)⟩) ?_
    simp only [Act.put, List.setIfInBounds_toArray, List.set_cons_zero, List.set_cons_succ]
    refine Ht.stepS (i := 16) ⟨some 94, _, _, _, _, _⟩ rfl (by kernel_rfl) (by rfl) (fun K hK => ?_)
    refine Ht.enter 11 #[.pointer (some ⟨wb, 0, none⟩)] (by have hen := fun args w => enters_of (P := Try.prog) Try.func11 (by kernel_rfl) rfl args w; go_simp) (hLen) ?_
    rintro e W3 ⟨rfl, hW3⟩
    obtain rfl := hW3.symm
    refine ⟨_, rfl, hK _ _ (fun hn => hS1) (fun hnx => ?_)⟩
    clear hK K hnx
    simp only [Act.put, List.setIfInBounds_toArray, List.set_cons_zero, List.set_cons_succ]
    refine Ht.stepS (i := 22) ⟨some 100, _, _, _, _, _⟩ rfl (by kernel_rfl) (by rfl) (fun K hK => ?_)
    go_simp
    refine hK _ _ (fun hn => hS1) (fun hnx => ?_)
    clear hK K hnx
    try simp only [Act.put, List.setIfInBounds_toArray, List.set_cons_zero, List.set_cons_succ]
    refine Ht.stepS (i := 23) ⟨some 101, _, _, _, _, _⟩ rfl (by kernel_rfl) (by rfl) (fun K hK => ?_)
    go_simp
    refine hK _ _ (fun hn => hS1) (fun hnx => ?_)
    clear hK K hnx
    try simp only [Act.put, List.setIfInBounds_toArray, List.set_cons_zero, List.set_cons_succ]
    refine doneS (by kernel_rfl) ?_
    have hSo := sorted_any W2 (src_own H2.out.1.r) (by have h1 := H2.out.2.1; have h2 := HR.out.2.2.2.2.2.1; omega)
    clear hNow hLen hS0 hS1 hDo
    go_wp2_with fail
    refine hSo.mono ?_
    rintro e W3 ⟨v3, ls, rfl, hp3, hs3, o3, b3⟩
    obtain ⟨W4, hW4⟩ : ∃ W, W = W3.alloc (.cells #[.slice none 0 0] 29) := ⟨_, rfl⟩
    obtain ⟨gb, hgb⟩ : ∃ b, b = W3.heap.size := ⟨_, rfl⟩
    have hb4 : Below W3.heap.size W3 W4 := by rw [hW4]; exact (Below.refl _ _).alloc (Nat.le_refl _) _
    have hg4 : W4.heap[gb]? = some (.cells #[.slice none 0 0] 29 (0, 0)) := by rw [hW4, hgb]; exact (MapKept.heap_alloc _ _).1
    have zW4 : W4.heap.size = gb + 1 := by rw [hW4, hgb]; simp
    have b24 : Below W2.heap.size W2 W4 := b3.trans (hb4.mono b3.size)
    have hmS : m2.length ≤ 400000 := by have h1 := H2.out.2.1; have h2 := HR.out.2.2.2.2.2.1; omega
    have p4 := (H2.out.1.also (N' := fun x => x = gb) b24 (fun x e => by have := b3.size; omega))
    have o4 : Own W4 W2.heap.size v3 ls := own_kept o3 fun x hx => hb4.block x (own_cell o3 hx).2.1
    obtain ⟨S4, q4, _⟩ := p4.w
    have hAll := all_any q4 hmS
    have H4 := Lib.hid (And.intro hp3 (And.intro hs3 (And.intro o4 (And.intro p4 (And.intro hg4 (And.intro zW4 (And.intro b24 hmS)))))))
    have HG := Lib.hid (And.intro hgb b3.size)
    clear hp3 hs3 o3 b3 hb4 hg4 zW4 b24 p4 o4 q4 hSo hmS
    go_wp2_with fail
    rw [← hW4, ← hgb]
    clear hW4 hgb d0 d2
    refine hAll.mono ?_
    rintro e W5 ⟨v5, l5, rfl, c5, hp5, hs5, src5, blk5, b5⟩
    have e5 : l5 = ls := srt_unique hs5 H4.out.2.1 (hp5.trans H4.out.1.symm)
    subst e5
    have p5 := H4.out.2.2.2.1.old b5
    have o5 : Own W5 W2.heap.size v3 l5 := own_kept H4.out.2.2.1 fun x hx => b5.block x (own_cell H4.out.2.2.1 hx).2.1
    have g5 := (b5.block gb (Array.getElem?_eq_some_iff.1 H4.out.2.2.2.2.1).1).trans H4.out.2.2.2.2.1
    have hl5 : l5.length ≤ 1000000 := by have h1 := H4.out.1.length_eq; have h2 := H4.out.2.2.2.2.2.2.2; omega
    have hB05 := World.block_lt_of_cell? _ _ c5
    have hgW : gb < W5.heap.size := by have h1 := H4.out.2.2.2.2.2.1; have h2 := b5.size; omega
    have hit := all_iter (n := 2) gb (gb + 1) W5.heap.size W4.heap.size W5 c5 hB05 (Nat.le_refl _) src5 (fun a n c e => by
      have h1 := blk5 a n c e
      have h2 := H4.out.2.2.2.2.2.1
      exact ⟨h1.2, .inr (by omega)⟩) hl5
    have H5 := Lib.hid (And.intro hit (And.intro p5 (And.intro o5 (And.intro g5 (And.intro hl5 (And.intro hgW (And.intro b5.size (H4.out.2.2.2.2.2.2.1.trans (b5.mono H4.out.2.2.2.2.2.2.1.size)))))))))
    clear hit p5 o5 g5 hl5 hB05 hgW src5 blk5 b5 c5 hp5 hs5 hAll
    go_wp2_with fail
    refine (wpIn_wide (n := 3)).1 ?_
    refine range_exit (br := false) rfl (by omega) (gf := 27) (lb := #[.pointer (some ⟨W4.heap.size, 0, none⟩)]) rfl trivial (enters_of Try.func27 (by kernel_rfl) rfl)
      (H5.out.1.x) (fun _ => rfl) (fun mm A => Gp W5 gb l5 mm A) (fun _ _ _ => False) (fun mm A A' h e => h.calm e) (fun _ _ _ _ h _ => h) (fun _ _ _ h => h.elim) ?h0 (fun m x A A' h _ => h) (fun m x A A' _ _ h _ _ => h) ?hround ?hdone (fun _ _ _ _ _ h _ => h.elim)
    case h0 => exact ⟨_, H5.out.2.2.2.1, ⟨rfl, .inl ⟨rfl, rfl⟩⟩, Fr.refl _ _, Nat.zero_le _⟩
    case hround =>
      rintro lp mr xr X hlB ⟨rr, hlr⟩ hI ⟨hm, rfl⟩
      obtain ⟨p1, hp1⟩ : ∃ x, x = (el l5 mr).1 := ⟨_, rfl⟩
      obtain ⟨q1, hq1⟩ : ∃ x, x = (el l5 mr).2 := ⟨_, rfl⟩
      have hx1 : el l5 mr = (p1, q1) := by rw [hp1, hq1]
      rw [hx1]
      dsimp only [enc1, item, ek, er]
      clear hp1 hq1
      gi_wp2_with fail
      refine ⟨(Below.refl _ _).alloc (Nat.le_refl _) _, ?_⟩
      intro A2 hbut hI2 hG2
      have hlX := (Array.getElem?_eq_some_iff.1 hlr).1
      have hx : A2.heap[X.heap.size]? = some (.cells #[(.string ⟨p1.toArray⟩), (.int .i64 q1)] 42 (0, 0)) := (hbut.2.2.2.2 _ (by omega)).trans (MapKept.heap_alloc X _).1
      obtain ⟨v, i1, i2, i3, i5⟩ := hI2
      obtain ⟨ao, cp, rfl⟩ := own_shape i2
      obtain ⟨nr, hnr⟩ : ∃ nr, nr = (l5.take mr).length := ⟨_, rfl⟩
      unfold Own at i2
      rw [← hnr] at i1 i2
      have c1 : A2.cell? ⟨gb, 0, none⟩ = some (.slice ao nr cp) := by rw [cell_of_row _ _ _ _ _ _ i1]; rfl
      have c2 : A2.cell? ⟨X.heap.size, 0, none⟩ = some (.string ⟨p1.toArray⟩) := by rw [cell_of_row _ _ _ _ _ _ hx]; rfl
      have c3 : A2.cell? ⟨X.heap.size, 1, none⟩ = some (.int .i64 q1) := by rw [cell_of_row _ _ _ _ _ _ hx]; rfl
      have hwA : gb < A2.heap.size := (Array.getElem?_eq_some_iff.1 i1).1
      have hnr2 : nr ≤ 1000000 := by rw [hnr, List.length_take]; have := H5.out.2.2.2.2.1; omega
      have hsA := i3.size
      have HX := Lib.hid (And.intro i1 (And.intro i2 (And.intro i3 (And.intro hm (And.intro hx1 hnr)))))
      have hbo : (Value.slice ao nr cp).ownBlock ≠ some gb := fun e => by have := (i2.lt _ e).1; have := H5.out.2.2.2.2.2.1; omega
      have HBo := Lib.hid (And.intro hbo (And.intro hwA hsA))
      clear hI hG2 hbut hlr hlX hx i1 i3 i5 hm hx1 hbo hnr hsA
      obtain ⟨i0, hi, hz0, hz1, hz2⟩ := info_parts infoT
      gi_wp2_with (gi_at_builtin; refine wpListIn_append_own _ rfl _ _ 29 rfl W5.heap.size 42 i0 _ 2 24 Try.underlying29 hi hz0 hz1 hz2 (by rfl) (by decide) (.slice ao nr cp) nr (cs (l5.take mr)) rfl (HX.out.2.1.alloc _) ⟨A2.heap.size, 0, none⟩ 1 1 [_, _] rfl rfl (cell_two _ _ _ _) (by simp [Value.oneCell']) (by unfold maxLen; omega) (by omega) (by simp; have := HBo.out.2.2; omega) ?_; intro v5 W6 hown5 hg5 _; obtain ⟨a5, cp5, rfl⟩ := own_shape hown5; have hS5 := (hg5.block gb (by simp; have := HBo.out.2.1; omega) (fun e => HBo.out.1 e.symm)).trans ((Below.heap_alloc A2 _ gb HBo.out.2.1).trans HX.out.1); have cc5 := (cell_of_row W6 gb 0 _ _ _ hS5).trans (rfl : _ = some (Value.slice ao nr cp)); have f5 : W6.frozen? ⟨gb, 0, none⟩ = false := (by simp [World.frozen?, hS5]))
      obtain ⟨i1, i2, i3, hm, hx1, hnr⟩ := HX.out
      have hown6 : Own W6 W5.heap.size (.slice a5 (nr + 1) cp5) (l5.take mr ++ [el l5 mr]) := by
        unfold Own
        rw [cs_app, List.length_append, ← hnr, hx1]; exact hown5
      exact gp_end H5.out.2.2.2.2.2.1 i1 (by unfold Own; rw [← hnr]; exact i2) hm i3 hg5 hown6
    case hdone =>
      intro D m6 X hD hS hI hK
      subst hS
      obtain ⟨v6, i1, i2, i3, i5⟩ := hI
      rw [List.take_length] at i2
      obtain ⟨hp3, hs3, o4, p4, hg4, zW4, b24, hmS⟩ := H4.out
      obtain ⟨_, p5, o5, g5, hl5, hgW, zW5, b25⟩ := H5.out
      obtain ⟨pV, rV, bV, hN1, hA, hmj, hjx⟩ := HR.out
      obtain ⟨p2, hl2, f2, hn2⟩ := H2.out
      have zX := i3.size
      have z24 := b24.size
      have zV2 := f2.size
      have hDX : D < X.heap.size := (Array.getElem?_eq_some_iff.1 hK).1
      have pX : Pl w.heap.size (fun x => ((x ∈ Ds ∨ x = ab) ∨ x = gb) ∨ x = D) X wb mb (.slice la2 n2 lc2) mo nw2 m2 nw2 m2 := (p5.also (N' := fun x => x = D) (Below.refl _ _) (fun x e => by omega)).apart (i3.mono fun x _ e => .inl (.inr e))
      have hold : ∀ x, (x ∈ Ds ∨ x = ab) → X.heap[x]? = V.heap[x]? := fun x hx => by
        have h1 := hN1 x hx
        have h2 : V.heap.size ≤ W2.heap.size := zV2
        have h4 := HG.out
        exact (i3.block x (by omega) (by omega)).trans ((b25.block x (by omega)).trans (f2.kept (k := x) hx h1))
      have rX : Recs w.heap.size X (D :: Ds) := (rV.kept fun x hx => hold x (.inl hx)).cons hK (by have h2 : V.heap.size ≤ W2.heap.size := zV2; have := HAB.out; omega) (fun e => by
        have h1 := hN1 D (.inl e)
        have h2 : V.heap.size ≤ W2.heap.size := zV2
        omega)
      have bD : Below w.heap.size w V.drew := ⟨bV.os, bV.tape, bV.output, bV.size, bV.block⟩
      have bW2 : Below w.heap.size w W2 := f2.below bD bV.size
      have bX : Below w.heap.size w X := (bW2.trans (b25.mono bW2.size)).trans (i3.below (by have := bW2.size; have := b25.size; omega) (fun x e => by
        have h4 := HG.out
        have := bW2.size
        omega))
      have a6 : X.cell? ⟨ab, 1, none⟩ = some (.string ⟨k.toArray⟩) := by
        have hb := hold ab (.inr rfl)
        have hc : V.cell? ⟨ab, 1, none⟩ = some (.string ⟨k.toArray⟩) := by rw [cell_of_row _ _ _ _ _ _ hA]; rfl
        unfold World.cell? at hc ⊢
        rw [hb]; exact hc
      have n3 : ∀ x, v3.ownBlock = some x → x ≠ gb := fun x hx e => by
        subst e
        obtain ⟨_, _, cur, hc⟩ := own_cell o4 hx
        rw [hg4] at hc; cases hc
      have o6 : Own X W2.heap.size v3 l5 := own_kept o5 fun x hx => i3.block x (own_cell o5 hx).2.1 (n3 x hx)
      have g6 : X.cell? ⟨gb, 0, none⟩ = some v6 := by rw [cell_of_row _ _ _ _ _ _ i1]; rfl
      have nd := pX.w.nd
      obtain ⟨z, hz, hF⟩ := find_is nd (by omega) k
      obtain ⟨S6, q6, _⟩ := pX.w
      have hNx := next_any q6 (ls_fm nd)
      obtain ⟨a3, c3, e3⟩ := own_shape o6
      obtain ⟨nl, hnl⟩ : ∃ nl, nl = l5.length := ⟨_, rfl⟩
      rw [← hnl] at e3
      subst e3
      have hml : m2.length ≤ j + 1 := by omega
      have H6 := Lib.hid (And.intro pX (And.intro rX (And.intro bX (And.intro a6 (And.intro i2 (And.intro o6 (And.intro g6 (And.intro nd (And.intro hml (And.intro hnl (And.intro hp3 (And.intro hs3 (And.intro hz hn2)))))))))))))
      have HF := Lib.hid (And.intro hF hl5)
      clear i1 i2 i3 i5 hp3 hs3 o4 p4 hg4 zW4 b24 hmS p5 o5 g5 hl5 hgW zW5 b25 pV rV bV hN1 hA hmj p2 hl2 f2 hn2 zX z24 zV2 hDX pX hold rX bD bW2 bX a6 n3 o6 g6 nd hz hF q6 hml hnl hK hD H2 H4 H5 HR HG HAB a0 a1 a2
      dsimp only
      go_wp2_with fail
      refine hNx.mono ?_
      rintro e X7 ⟨nv, nb, rfl, hnx, b7⟩
      have p7 := H6.out.1.old b7
      have a7 := (b7.cell (World.block_lt_of_cell? _ _ H6.out.2.2.2.1)).trans H6.out.2.2.2.1
      have g7 := (b7.cell (World.block_lt_of_cell? _ _ H6.out.2.2.2.2.2.2.1)).trans H6.out.2.2.2.2.2.2.1
      have hAt := p7.w.at' (ls_fm H6.out.2.2.2.2.2.2.2.1) hkk
      have d7 := p7.cells.2.2.1
      have o7 : Own X7 W2.heap.size (.slice a3 nl c3) l5 := own_kept H6.out.2.2.2.2.2.1 fun x hx => b7.block x (own_cell H6.out.2.2.2.2.2.1 hx).2.1
      have i7 : Own X7 W5.heap.size v6 l5 := own_kept H6.out.2.2.2.2.1 fun x hx => b7.block x (own_cell H6.out.2.2.2.2.1 hx).2.1
      have hF2 : ∀ W, W.heap = X7.heap → Calls Try.prog 16 #[.slice la2 n2 lc2, .string ⟨k.toArray⟩] W fun e Y => e = .returned (.int .i64 z) ∧ Y = W := fun W e => HF.out.1 W _ ((src_own p7.r).kept fun _ _ _ _ => by rw [e])
      have hSa : ∀ W, W.heap = X7.heap → Calls Try.prog 17 #[v6, .slice a3 nl c3] W fun e Y => e = .returned (.bool true) ∧ ∃ d, Y = W.drewN d := fun W e => same_any W ((src_own i7).kept fun _ _ _ _ => by rw [e]) ((src_own o7).kept fun _ _ _ _ => by rw [e]) HF.out.2
      obtain ⟨av, hav⟩ : ∃ av, av = (fm m2 k).getD 0 := ⟨_, rfl⟩
      obtain ⟨tb, htb⟩ : ∃ tb, tb = (fm m2 k).isSome := ⟨_, rfl⟩
      rw [← hav, ← htb] at hAt
      unfold ek at hAt
      have H7 := Lib.hid (And.intro p7 (And.intro o7 (And.intro hnx (And.intro hav (And.intro htb b7)))))
      clear p7 o7 i7 hnx hav htb b7 hNx
      go_wp2_with fail
      refine hAt.mono ?_
      rintro e X8 ⟨rfl, hX8⟩
      obtain rfl := hX8.symm
      clear hAt
      go_wp2_with fail
      go_quiet ((go_at_call 16; exact Calls.quiet_of_same (hF2 _ (by simp))))
      go_wp2_with fail
      refine (hSa _ (by simp)).mono ?_
      rintro e X9 ⟨rfl, d9, rfl⟩
      clear hF2 hSa
      by_cases h0 : l5.length = 0
      · have hm0 : m2 = [] := List.eq_nil_of_length_eq_zero (by have := H6.out.2.2.2.2.2.2.2.2.2.2.1.length_eq; omega)
        have hnl0 : nl = 0 := by have := H6.out.2.2.2.2.2.2.2.2.2.1; omega
        have hx := H7.out.2.2.1
        rw [hm0] at hx
        obtain ⟨e1, e2⟩ := next_nil hx
        have hz1 : z = -1 := by
          rcases H6.out.2.2.2.2.2.2.2.2.2.2.2.2.1 with ⟨h, _⟩ | ⟨i, _, h, _⟩
          · exact h
          · rw [hm0] at h; simp at h
        have e3 : av = 0 := by rw [H7.out.2.2.2.1, hm0]; rfl
        have e4 : tb = false := by rw [H7.out.2.2.2.2.1, hm0]; rfl
        clear hm0 hx h0
        subst e1 e2 hz1 e3 e4 hnl0
        go_wp2_with fail
        obtain ⟨pX, rX, bX, _, _, _, _, _, hml, _⟩ := H6.out
        obtain ⟨_, _, _, _, _, b7⟩ := H7.out
        have b10 : ∀ q, Below X.heap.size X (X7.drewN q) := fun q => ⟨b7.os, b7.tape, b7.output, b7.size, b7.block⟩
        refine ⟨PI.mk' _ (j + 1) _ nw2 m2 (D :: Ds) ⟨by omega, hml, (pX.old (b10 _)).less (fun x e => ?_), rX.below (b10 _), bX.trans ((b10 _).mono bX.size)⟩ (by kernel_rfl), ?_⟩
        · rcases List.mem_cons.1 e with e | e
          · exact .inr e
          · exact .inl (.inl (.inl e))
        · change n - (((j : Nat) : Int) + 1).toNat < n - ((j : Nat) : Int).toNat
          omega
      obtain ⟨e1, e2⟩ := next_first H6.out.2.2.2.2.2.2.2.1 H6.out.2.2.2.2.2.2.2.2.2.2.1 H6.out.2.2.2.2.2.2.2.2.2.2.2.1 (by omega) H7.out.2.2.1
      obtain ⟨g3, eg3, r7⟩ : ∃ g3, a3 = some ⟨g3, 0, none⟩ ∧ X7.cell? ⟨g3, 1, none⟩ = some (.int .i64 nv) := by
        rcases src_own H7.out.2.1 with ⟨h1, _⟩ | ⟨g, c, h1, h2⟩
        · rw [h1] at h0; simp at h0
        · cases h1
          have := (h2 0 (by omega)).2
          rw [Nat.zero_mul, Nat.zero_add, ← e2] at this
          exact ⟨g, rfl, this⟩
      subst eg3 e1
      have hnlp : (0 : Int) < ((nl : Nat) : Int) := by have := H6.out.2.2.2.2.2.2.2.2.2.1; omega
      have hnlq : 0 < nl := by omega
      clear e2 h0
      rcases H6.out.2.2.2.2.2.2.2.2.2.2.2.2.1 with ⟨hz1, hk4⟩ | ⟨i, hz1, hil, hei⟩
      · have e3 : av = 0 := by rw [H7.out.2.2.2.1, fm_none hk4]; rfl
        have e4 : tb = false := by rw [H7.out.2.2.2.2.1, fm_none hk4]; rfl
        clear hk4
        subst hz1 e3 e4
        go_wp2_with fail
        obtain ⟨pX, rX, bX, _, _, _, _, _, hml, _⟩ := H6.out
        obtain ⟨_, _, _, _, _, b7⟩ := H7.out
        have b10 : ∀ q, Below X.heap.size X (X7.drewN q) := fun q => ⟨b7.os, b7.tape, b7.output, b7.size, b7.block⟩
        refine ⟨PI.mk' _ (j + 1) _ nw2 m2 (D :: Ds) ⟨by omega, hml, (pX.old (b10 _)).less (fun x e => ?_), rX.below (b10 _), bX.trans ((b10 _).mono bX.size)⟩ (by kernel_rfl), ?_⟩
        · rcases List.mem_cons.1 e with e | e
          · exact .inr e
          · exact .inl (.inl (.inl e))
        · change n - (((j : Nat) : Int) + 1).toNat < n - ((j : Nat) : Int).toNat
          omega
      · have hfm := fm_at H6.out.2.2.2.2.2.2.2.1 hil
        rw [hei] at hfm
        have e3 : av = (el m2 i).2 := by rw [H7.out.2.2.2.1, hfm]; rfl
        have e4 : tb = true := by rw [H7.out.2.2.2.2.1, hfm]; rfl
        obtain ⟨g2, eg2, t7⟩ : ∃ g2, la2 = some ⟨g2, 0, none⟩ ∧ X7.cell? ⟨g2, i * 2 + 1, none⟩ = some (.int .i64 av) := by
          rcases src_own H7.out.1.r with ⟨h1, _⟩ | ⟨g, c, h1, h2⟩
          · rw [h1] at hil; simp at hil
          · cases h1
            have := (h2 i hil).2
            rw [← e3] at this
            exact ⟨g, rfl, this⟩
        have hin : ((i : Nat) : Int) < ((n2 : Nat) : Int) := by have := H6.out.2.2.2.2.2.2.2.2.2.2.2.2.2; omega
        have hi0 : (0 : Int) ≤ ((i : Nat) : Int) := by omega
        have hi4 : ((i : Nat) : Int) ≤ 1000 := by have := H6.out.2.2.2.2.2.2.2.2.1; omega
        clear hfm e3 hil hei
        subst hz1 e4 eg2
        go_wp2_with fail
        obtain ⟨pX, rX, bX, _, _, _, _, _, hml, _⟩ := H6.out
        obtain ⟨_, _, _, _, _, b7⟩ := H7.out
        have b10 : ∀ q, Below X.heap.size X (X7.drewN q) := fun q => ⟨b7.os, b7.tape, b7.output, b7.size, b7.block⟩
        refine ⟨PI.mk' _ (j + 1) _ nw2 m2 (D :: Ds) ⟨by omega, hml, (pX.old (b10 _)).less (fun x e => ?_), rX.below (b10 _), bX.trans ((b10 _).mono bX.size)⟩ (by kernel_rfl), ?_⟩
        · rcases List.mem_cons.1 e with e | e
          · exact .inr e
          · exact .inl (.inl (.inl e))
        · change n - (((j : Nat) : Int) + 1).toNat < n - ((j : Nat) : Int).toNat
          omega
end Go.Proofs.Ytcafiehlhdoibaa.Wh
