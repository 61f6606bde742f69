
/- WheelPlays: the act Cut -/
import Derived.Test.YtcafiehlhdoibaaWh25
import Derived.Test.YtcafiehlhdoibaaWh21
namespace Go.Proofs.Ytcafiehlhdoibaa.Wh
open Go.RowKit Go.Lib Go.Sort Go.Maps Hp Ht
set_option linter.unusedVariables false
set_option maxRecDepth 20000
theorem slice_hi (W : World) (g n c i : Nat) (h : i ≤ c) : (Instr.slice 29 (.slice (some ⟨g, 0, none⟩) n c) none (some (.int .i64 ((i : Nat) : Int))) none).run Try.prog W = .ok (.slice (some ⟨g, 0, none⟩) i c) W := by
  have h1 : ((i : Nat) : Int) ≤ ((c : Nat) : Int) := by omega
  clear h
  go_simp
/-- 'append(append([]Timer{}, l[:i]...), l[i+1:]...)' -/
theorem cut_runs (W : World) {B : Nat} {v : Value} {o : List (K × Int)} (ho : Own W B v o) {i : Nat} (hi : i < o.length) (hn : o.length ≤ 100000) (ty : TypeId) :
    ∃ va vb v1 W1 v2 W2, (∀ X, (Instr.slice 29 v none (some (.int .i64 ((i : Nat) : Int))) none).run Try.prog X = .ok va X) ∧ (∀ X, (Instr.slice 29 v (some (.int .i64 ((i + 1 : Nat) : Int))) none none).run Try.prog X = .ok vb X) ∧
      (Builtin.append_ #[29, 29] ty #[.slice (some ⟨W.heap.size, 0, none⟩) 0 0, va]).run Try.prog (W.alloc (.cells #[] 42)) = .ok v1 W1 ∧ Below W.heap.size W W1 ∧ (Builtin.append_ #[29, 29] ty #[v1, vb]).run Try.prog W1 = .ok v2 W2 ∧
      Own W2 W.heap.size v2 (o.eraseIdx i) ∧ Below W.heap.size W W2 := by
  obtain ⟨i0, hi0, hz0, hz1, hz2⟩ := info_parts infoT
  have hbA : Below W.heap.size W (W.alloc (.cells #[] 42)) := (Below.refl _ _).alloc (Nat.le_refl _) _
  have hone : Own (W.alloc (.cells #[] 42)) W.heap.size (.slice (some ⟨W.heap.size, 0, none⟩) 0 0) [] := World.ownsRow_made W #[] 0 (Nat.le_refl _) (Nat.zero_le _) rfl
  rcases ho.2 with ⟨rfl, h0⟩ | ⟨g, cap, cur, rfl, hBg, hg, hnc, hcm, hcs, htake⟩
  · omega
  · obtain ⟨y, hy⟩ : ∃ y, (if cap = i + 1 then some (⟨g, 0, none⟩ : Addr) else (some (⟨g, 0, none⟩ : Addr)).map (·.add ((i + 1) * 2))) = some y := by
      split
      · exact ⟨_, rfl⟩
      · exact ⟨_, rfl⟩
    have hcell : ∀ j u, (cs o)[j]? = some u → W.cell? ⟨g, j, none⟩ = some u := fun j u hu => by
      have := ho.cells rfl j u hu
      rw [Addr.add_mid, Nat.zero_add] at this; exact this
    have hgW : g < W.heap.size := (Array.getElem?_eq_some_iff.1 hg).1
    have hsplit : cs o = cs (o.take i) ++ cs (o.drop i) := by rw [← cs_app, List.take_append_drop]
    have hsplit2 : cs o = cs (o.take (i + 1)) ++ cs (o.drop (i + 1)) := by rw [← cs_app, List.take_append_drop]
    have hti : (o.take i).length = i := by simp; omega
    have hti2 : (o.take (i + 1)).length = i + 1 := by simp; omega
    obtain ⟨v1, W1, r1, o1, g1, _⟩ := run_append_own (P := Try.prog) (W.alloc (.cells #[] 42)) W.heap.size 29 ty 42 i0 _ 2 24 Try.underlying29 hi0 hz0 hz1 hz2 rfl (by decide) _ 0 [] hone ⟨g, 0, none⟩ i cap (cs (o.take i)) (by rw [cs_len, hti]) (fun j u hu => by
      have hjl : j < i * 2 := by
        have := (List.getElem?_eq_some_iff.1 hu).1
        rwa [cs_len, hti] at this
      rw [Addr.add_mid, Nat.zero_add]
      refine (hbA.cell (p := ⟨g, j, none⟩) hgW).trans (hcell _ _ ?_)
      rw [hsplit, List.getElem?_append_left (by rw [cs_len, hti]; exact hjl)]
      exact hu) (cs_one _) (by unfold maxLen; omega) (by omega) hbA.size
    have b1 : Below W.heap.size W W1 := hbA.trans ⟨g1.os, g1.tape, g1.output, g1.size, fun k hk => g1.block k (by have := hbA.size; omega) (fun e => by have := (hone.lt k e.symm).1; omega)⟩
    rw [Nat.zero_add, List.nil_append] at o1
    have hdrop : ∀ j u, (cs (o.drop (i + 1)))[j]? = some u → W1.cell? (y.add j) = some u := fun j u hu => by
      have hjl : j < (o.drop (i + 1)).length * 2 := by
        have := (List.getElem?_eq_some_iff.1 hu).1
        rwa [cs_len] at this
      rw [List.length_drop] at hjl
      have hne : ¬ cap = i + 1 := by omega
      rw [if_neg hne] at hy
      simp only [Option.map_some, Option.some.injEq] at hy
      rw [← hy, Addr.add_mid, Addr.add_mid, Nat.zero_add]
      refine (b1.cell (p := ⟨g, (i + 1) * 2 + j, none⟩) hgW).trans (hcell _ _ ?_)
      rw [hsplit2, List.getElem?_append_right (by rw [cs_len, hti2]; omega), cs_len, hti2, show (i + 1) * 2 + j - (i + 1) * 2 = j by omega]
      exact hu
    obtain ⟨v2, W2, r2, o2, g2, _⟩ := run_append_own (P := Try.prog) W1 W.heap.size 29 ty 42 i0 _ 2 24 Try.underlying29 hi0 hz0 hz1 hz2 rfl (by decide) _ i (cs (o.take i)) o1 y (o.length - (i + 1)) (cap - (i + 1)) (cs (o.drop (i + 1))) (by rw [cs_len, List.length_drop]) hdrop (cs_one _) (by unfold maxLen; omega) (by omega) b1.size
    have b2 : Below W.heap.size W W2 := b1.trans ⟨g2.os, g2.tape, g2.output, g2.size, fun k hk => g2.block k (by have := b1.size; omega) (fun e => by have := (o1.lt k e.symm).1; omega)⟩
    have o3 : Own W2 W.heap.size v2 (o.eraseIdx i) := by
      have e : (o.eraseIdx i).length = i + (o.length - (i + 1)) := by rw [List.length_eraseIdx_of_lt hi]; omega
      have e2 : cs (o.eraseIdx i) = cs (o.take i) ++ cs (o.drop (i + 1)) := by rw [← cs_app, List.eraseIdx_eq_take_drop_succ]
      unfold Own
      rw [e, e2]; exact o2
    exact ⟨_, _, v1, W1, v2, W2, fun X => slice_hi X g o.length cap i (by omega), fun X => slice_low X g o.length cap (i + 1) y (by omega) hnc hy, r1, b1, r2, o3, b2⟩
set_option maxHeartbeats 8000000 in
theorem do_cut {B : Nat} {N : Nat → Prop} {X : World} {wb mb : Nat} {lv : Value} {most : Nat} {now : Int} {m : List (K × Int)} (h : Pl B N X wb mb lv most now m now m) (hB : B ≤ X.heap.size) (hN : ∀ x, N x → x < X.heap.size) (hm : m.length ≤ 100) {k : K} (hk : wk k) {kind ticks : Int} (hkind : kind = 2)
    (ht : -1125899906842624 ≤ ticks ∧ ticks ≤ 1125899906842624) (hmost : 1 ≤ most ∧ most ≤ 65536) :
    Calls Try.prog 9 #[.pointer (some ⟨wb, 0, none⟩), .pointer (some ⟨mb, 0, none⟩), .agg #[.int .i64 kind, ek k, .int .i64 ticks]] X (Done B N X wb mb most m) := by
  have hmix : Try.prog.follows .mixedOrders = true := by kernel_rfl
  subst hkind
  obtain ⟨z, hz, hF⟩ := find_is h.w.nd (by omega) k
  obtain ⟨la, lc, rfl⟩ := own_shape h.r
  obtain ⟨lv, hlv⟩ : ∃ lv, lv = Value.slice la m.length lc := ⟨_, rfl⟩
  obtain ⟨n, hn⟩ : ∃ n, n = m.length := ⟨_, rfl⟩
  obtain ⟨V, hV⟩ : ∃ V, V = X.alloc (.cells #[.int .i64 2, .string ⟨k.toArray⟩, .int .i64 ticks] 33) := ⟨_, rfl⟩
  obtain ⟨ab, hab⟩ : ∃ ab, ab = X.heap.size := ⟨_, rfl⟩
  have hbV : Below X.heap.size X V := by rw [hV]; exact (Below.refl _ _).alloc (Nat.le_refl _) _
  have hA : V.heap[ab]? = some (.cells #[.int .i64 2, .string ⟨k.toArray⟩, .int .i64 ticks] 33 (0, 0)) := by rw [hV, hab]; exact (MapKept.heap_alloc _ _).1
  have p := h.also (N' := fun x => x = ab) hbV (fun x e => by omega)
  have a0 : V.cell? ⟨ab, 0, none⟩ = some (.int .i64 2) := by rw [cell_of_row _ _ _ _ _ _ hA]; rfl
  have a1 : V.cell? ⟨ab, 1, none⟩ = some (.string ⟨k.toArray⟩) := by rw [cell_of_row _ _ _ _ _ _ hA]; rfl
  have a2 : V.cell? ⟨ab, 2, none⟩ = some (.int .i64 ticks) := by rw [cell_of_row _ _ _ _ _ _ hA]; rfl
  have c0 := p.cells.1
  have c1 := p.cells.2.1
  have c2 := p.cells.2.2.1
  have hF2 : ∀ W, W.heap = V.heap → Calls Try.prog 16 #[.slice la m.length lc, .string ⟨k.toArray⟩] W fun e Y => e = .returned (.int .i64 z) ∧ Y = W := fun W e => hF W _ ((src_own p.r).kept fun _ _ _ _ => by rw [e])
  have htk := h.w.tk
  have hT0 : -1125899906842624 ≤ now + ticks ∧ now + ticks ≤ 2251799813685248 := by have := htk.1; have := htk.2; unfold MT at *; omega
  obtain ⟨T, hT⟩ : ∃ T, T = now + ticks := ⟨_, rfl⟩
  have hw1 : IntKind.i64.wrap (now + ticks) = T := by rw [IntWalk.i64_in, hT] <;> omega
  have hw2 : wrap64 (now + ticks) = T := by rw [hT]; unfold wrap64; omega
  rw [← hT] at hT0
  have hsz : V.heap.size = X.heap.size + 1 := by rw [hV]; simp
  rw [← hn] at h p
  have H0 := Lib.hid (And.intro h (And.intro p (And.intro hbV (And.intro hz (And.intro hn (And.intro hsz (And.intro hA htk)))))))
  rw [← hn] at hF2 c2
  have HZ := Lib.hid (And.intro hT hab)
  clear h p hF hn hA hlv hbV hz hT htk
  unfold ek
  go_enter Try.func9, Try.ntmps9
  go_wp2_with fail
  rw [← hV, ← hab]
  clear hV hab
  go_quiet ((go_at_call 16; exact Calls.quiet_of_same (hF2 _ (by simp))))
  
  go_wp2_with fail
  go_quiet (fail)
  rename_i q1 _ _
  rcases H0.out.2.2.2.1 with ⟨hz1, hk4⟩ | ⟨i, hz1, hi, hei⟩
  · subst hz1
    have hfm : (fm m k).isSome = false := by rw [fm_none hk4]; rfl
    obtain ⟨h, p, hbV, hz, hn, hsz, hA, htk⟩ := H0.out
    have hAd := (p.old (below_drewN V (q1 + nq))).cut hk
    rw [hfm, cut_none hk4] at hAd
    unfold ek at hAd
    have HB := Lib.hid hbV
    clear H0 p hbV hz hn hA htk h hF2 hw1 hw2 hsz hT0 HZ hfm
    go_wp2_with fail
    refine hAd.mono ?_
    rintro e W2 ⟨rfl, p2, f2⟩
    go_wp2_with fail
    go_ret
    exact done_of (by simp) p2 (fun x e => .inl e) (by omega) (Fr.of_below HB.out) (Fo.trans (Fr.of_below (below_drewN V (q1 + nq))) f2)
  · subst hz1
    have hi0 : (0 : Int) ≤ ((i : Nat) : Int) := by omega
    have hi2 : IntKind.i64.wrap (((i : Nat) : Int) + 1) = ((i + 1 : Nat) : Int) := by rw [IntWalk.i64_in] <;> omega
    have hfm : (fm m k).isSome = true := by rw [← hei, fm_at H0.out.1.w.nd hi]; rfl
    clear hw1 hw2
    go_wp2_with fail
    obtain ⟨h, p, hbV, hz, hn, hsz, hA, htk⟩ := H0.out
    have hbW := below_drewN V (q1 + nq)
    generalize V.drewN (q1 + nq) = W1 at hbW ⊢
    have pW := p.old hbW
    have pD : Pl B (fun x => N x ∨ x = ab) W1.drew wb mb (.slice la n lc) most now m now m := pW.old ⟨rfl, rfl, rfl, Nat.le_refl _, fun _ _ => rfl⟩
    have d2 := pW.cells.2.2.1
    have d1 : W1.cell? ⟨ab, 1, none⟩ = some (.string ⟨k.toArray⟩) := (hbW.cell (World.block_lt_of_cell? _ _ a1)).trans a1
    have hN' : ∀ x, (N x ∨ x = ab) → x < W1.drew.heap.size := by
      have h1 : V.heap.size ≤ W1.drew.heap.size := hbW.size
      have h2 := HZ.out.2
      rintro x (e | e)
      · have := hN x e; omega
      · omega
    obtain ⟨va, vb, v1, X1, v2, X2, s1, s2, r1, bX1, r2, o2, bX2⟩ := cut_runs W1.drew pD.r hi (by omega) 29
    obtain ⟨a3, c3, hv3⟩ := own_shape o2
    obtain ⟨n3, hn3⟩ : ∃ n3, n3 = (m.eraseIdx i).length := ⟨_, rfl⟩
    rw [← hn3] at hv3
    subst hv3
    have hm3 : X2.cell? ⟨mb, 2, none⟩ = some (.slice la n lc) := (bX2.cell (World.block_lt_of_cell? _ _ pD.cells.2.2.1)).trans pD.cells.2.2.1
    have hS1 : (W1.drew.alloc (.cells #[] 42)).cell? ⟨mb, 2, none⟩ = some (.slice la n lc) := (((Below.refl _ _).alloc (Nat.le_refl _) _ : Below W1.drew.heap.size W1.drew (W1.drew.alloc (.cells #[] 42))).cell (World.block_lt_of_cell? _ _ pD.cells.2.2.1)).trans pD.cells.2.2.1
    have hS2 : X1.cell? ⟨mb, 2, none⟩ = some (.slice la n lc) := (bX1.cell (World.block_lt_of_cell? _ _ pD.cells.2.2.1)).trans pD.cells.2.2.1
    have hf2 : X2.frozen? ⟨mb, 2, none⟩ = false := by
      have := (bX2.block mb pD.lt).trans pD.o
      simp [World.frozen?, this]
    have hB' : B ≤ W1.drew.heap.size := by have h1 : V.heap.size ≤ W1.drew.heap.size := hbW.size; omega
    have pC := pD.set (Fr.of_below bX2) (own_base o2 hB') (fun x hx => .inr (own_cell o2 hx).1) hN'
    have hAd := pC.1.cut hk
    obtain ⟨W3, hW3⟩ : ∃ W, W = X2.setCell ⟨mb, 2, none⟩ (.slice a3 n3 c3) := ⟨_, rfl⟩
    have e1 : W3.cell? ⟨ab, 1, none⟩ = some (.string ⟨k.toArray⟩) := by
      have hb := pC.2.kept (k := ab) (.inr rfl) (hN' ab (.inr rfl))
      rw [← hW3] at hb
      have d3 : W1.drew.cell? ⟨ab, 1, none⟩ = some (.string ⟨k.toArray⟩) := d1
      unfold World.cell? at d3 ⊢
      rw [hb]; exact d3
    have f3 : Fo B (fun x => N x ∨ x = ab) V W3 := by
      rw [hW3]
      exact Fo.trans (Y := W1.drew) (Fr.of_below ⟨hbW.os, hbW.tape, hbW.output, hbW.size, hbW.block⟩) pC.2
    have hcut := cut_one h.w.nd hi
    rw [hei] at hcut
    rw [← hW3, hfm, ← hcut] at hAd
    unfold ek at hAd
    have hll : (m.eraseIdx i).length ≤ m.length + 1 := by rw [List.length_eraseIdx_of_lt hi]; omega
    have HE := Lib.hid (And.intro f3 (And.intro hbV hll))
    obtain ⟨i2, hi3⟩ : ∃ i2, i2 = ((i + 1 : Nat) : Int) := ⟨_, rfl⟩
    rw [← hi3] at hi2 s2
    clear hn3
    have HR := Lib.hid (And.intro r1 r2)
    clear h p hbV hz hn hsz hA htk hbW pW pD hN' pC f3 hB' H0 HZ a0 a1 a2 c0 c1 c2 hF2 hT0 hcut hfm hll bX1 bX2 o2 hi3 r1 r2 hei hi
    refine begin' 99 (fun _ => True) hmix trivial (fun _ => ?_)
    refine Ht.takeN (i := 0) ⟨some 86, _, _, _, _, _⟩ (.pointer (some ⟨mb, 0, none⟩)) rfl (Nat.le_of_ble_eq_true (by kernel_rfl)) (by kernel_rfl) (by kernel_rfl) (by kernel_rfl) (by kernel_rfl) trivial (Or.inl ⟨by rfl, by (intro X hX; go_simp)⟩) ?_
    simp only [Act.put, List.setIfInBounds_toArray, List.set_cons_zero, List.set_cons_succ]
    refine Ht.takeN (i := 2) ⟨some 88, _, _, _, _, _⟩ (.pointer (some ⟨mb, 0, none⟩)) rfl (Nat.le_of_ble_eq_true (by kernel_rfl)) (by kernel_rfl) (by kernel_rfl) (by kernel_rfl) (by kernel_rfl) trivial (Or.inl ⟨by rfl, by (intro X hX; go_simp)⟩) ?_
    simp only [Act.put, List.setIfInBounds_toArray, List.set_cons_zero, List.set_cons_succ]
    refine Ht.takeN (i := 3) ⟨some 89, _, _, _, _, _⟩ (.pointer (some ⟨mb, 0, none⟩)) rfl (Nat.le_of_ble_eq_true (by kernel_rfl)) (by kernel_rfl) (by kernel_rfl) (by kernel_rfl) (by kernel_rfl) trivial (Or.inl ⟨by rfl, by (intro X hX; go_simp)⟩) ?_
    simp only [Act.put, List.setIfInBounds_toArray, List.set_cons_zero, List.set_cons_succ]
    refine Ht.takeN (i := 4) ⟨some 90, _, _, _, _, _⟩ (.pointer (some ⟨mb, 2, none⟩)) rfl (Nat.le_of_ble_eq_true (by kernel_rfl)) (by kernel_rfl) (by kernel_rfl) (by kernel_rfl) (by kernel_rfl) trivial (Or.inl ⟨by rfl, by (intro X hX; go_simp)⟩) ?_
    simp only [Act.put, List.setIfInBounds_toArray, List.set_cons_zero, List.set_cons_succ]
    refine Ht.takeN (i := 6) ⟨some 92, _, _, _, _, _⟩ (.int .i64 ((i : Nat) : Int)) rfl (Nat.le_of_ble_eq_true (by kernel_rfl)) (by kernel_rfl) (by kernel_rfl) (by kernel_rfl) (by kernel_rfl) trivial (Or.inl ⟨by rfl, by (intro X hX; go_simp)⟩) ?_
    simp only [Act.put, List.setIfInBounds_toArray, List.set_cons_zero, List.set_cons_succ]
    refine Ht.takeN (i := 9) ⟨some 95, _, _, _, _, _⟩ (.pointer (some ⟨mb, 0, none⟩)) rfl (Nat.le_of_ble_eq_true (by kernel_rfl)) (by kernel_rfl) (by kernel_rfl) (by kernel_rfl) (by kernel_rfl) trivial (Or.inl ⟨by rfl, by (intro X hX; go_simp)⟩) ?_
    simp only [Act.put, List.setIfInBounds_toArray, List.set_cons_zero, List.set_cons_succ]
    refine Ht.takeN (i := 10) ⟨some 96, _, _, _, _, _⟩ (.pointer (some ⟨mb, 0, none⟩)) rfl (Nat.le_of_ble_eq_true (by kernel_rfl)) (by kernel_rfl) (by kernel_rfl) (by kernel_rfl) (by kernel_rfl) trivial (Or.inl ⟨by rfl, by (intro X hX; go_simp)⟩) ?_
    simp only [Act.put, List.setIfInBounds_toArray, List.set_cons_zero, List.set_cons_succ]
    refine Ht.takeN (i := 11) ⟨some 97, _, _, _, _, _⟩ (.pointer (some ⟨mb, 2, none⟩)) rfl (Nat.le_of_ble_eq_true (by kernel_rfl)) (by kernel_rfl) (by kernel_rfl) (by kernel_rfl) (by kernel_rfl) trivial (Or.inl ⟨by rfl, by (intro X hX; go_simp)⟩) ?_
    simp only [Act.put, List.setIfInBounds_toArray, List.set_cons_zero, List.set_cons_succ]
    refine Ht.takeN (i := 13) ⟨some 99, _, _, _, _, _⟩ (.int .i64 ((i : Nat) : Int)) rfl (Nat.le_of_ble_eq_true (by kernel_rfl)) (by kernel_rfl) (by kernel_rfl) (by kernel_rfl) (by kernel_rfl) trivial (Or.inl ⟨by rfl, by (intro X hX; go_simp)⟩) ?_
    simp only [Act.put, List.setIfInBounds_toArray, List.set_cons_zero, List.set_cons_succ]
    refine Ht.takeN (i := 14) ⟨some 100, _, _, _, _, _⟩ (.int .i64 i2) rfl (Nat.le_of_ble_eq_true (by kernel_rfl)) (by kernel_rfl) (by kernel_rfl) (by kernel_rfl) (by kernel_rfl) trivial (Or.inl ⟨by rfl, by (intro X hX; go_simp)⟩) ?_
    simp only [Act.put, List.setIfInBounds_toArray, List.set_cons_zero, List.set_cons_succ]
    refine later [16, 17, 18, 19] (fun Z => Z.cell? ⟨mb, 2, none⟩ = some (.slice la n lc)) (d2) (fun hS0 => ?_)
    refine Ht.takeS 10 (i := 5) ⟨some 91, _, _, _, _, _⟩ (.slice la n lc) rfl (by kernel_rfl) (by kernel_rfl) (by kernel_rfl) (by kernel_rfl) (by kernel_rfl) hS0 (Or.inl ⟨by rfl, by (intro X hX; have := hX; go_simp)⟩) ?_
    simp only [Act.put, List.setIfInBounds_toArray, List.set_cons_zero, List.set_cons_succ]
    refine Ht.takeS 10 (i := 12) ⟨some 98, _, _, _, _, _⟩ (.slice la n lc) rfl (by kernel_rfl) (by kernel_rfl) (by kernel_rfl) (by kernel_rfl) (by kernel_rfl) hS0 (Or.inl ⟨by rfl, by (intro X hX; have := hX; go_simp)⟩) ?_
    simp only [Act.put, List.setIfInBounds_toArray, List.set_cons_zero, List.set_cons_succ]
    refine Ht.takeS 10 (i := 7) ⟨some 93, _, _, _, _, _⟩ (va) rfl (by kernel_rfl) (by kernel_rfl) (by kernel_rfl) (by kernel_rfl) (by kernel_rfl) hS0 (Or.inl ⟨by rfl, by (intro X hX; go_simp)⟩) ?_
    simp only [Act.put, List.setIfInBounds_toArray, List.set_cons_zero, List.set_cons_succ]
    refine Ht.takeS 10 (i := 15) ⟨some 101, _, _, _, _, _⟩ (vb) rfl (by kernel_rfl) (by kernel_rfl) (by kernel_rfl) (by kernel_rfl) (by kernel_rfl) hS0 (Or.inl ⟨by rfl, by (intro X hX; go_simp)⟩) ?_
    simp only [Act.put, List.setIfInBounds_toArray, List.set_cons_zero, List.set_cons_succ]
    refine Ht.stepS (i := 1) ⟨some 87, _, _, _, _, _⟩ rfl (by kernel_rfl) (by rfl) (fun K hK => ?_)
    go_simp
    refine hK _ _ (fun hn => hS1) (fun hnx => ?_)
    clear hK K hnx
    try simp only [Act.put, List.setIfInBounds_toArray, List.set_cons_zero, List.set_cons_succ]
    refine Ht.stepS (i := 8) ⟨some 94, _, _, _, _, _⟩ rfl (by kernel_rfl) (by rfl) (fun K hK => ?_)
    refine wp_append' _ _ _ rfl rfl rfl HR.out.1 ?_
    refine hK _ _ (fun hn => hS2) (fun hnx => ?_)
    clear hK K hnx
    simp only [Act.put, List.setIfInBounds_toArray, List.set_cons_zero, List.set_cons_succ]
    refine Ht.stepS (i := 16) ⟨some 102, _, _, _, _, _⟩ rfl (by kernel_rfl) (by rfl) (fun K hK => ?_)
    refine wp_append' _ _ _ rfl rfl rfl HR.out.2 ?_
    refine hK _ _ (fun hn => absurd (by decide) hn) (fun hnx => ?_)
    clear hK K hnx
    simp only [Act.put, List.setIfInBounds_toArray, List.set_cons_zero, List.set_cons_succ]
    refine Ht.stepS (i := 17) ⟨some 103, _, _, _, _, _⟩ rfl (by kernel_rfl) (by rfl) (fun K hK => ?_)
    go_simp
    refine hK _ _ (fun hn => absurd (by decide) hn) (fun hnx => ?_)
    clear hK K hnx
    try simp only [Act.put, List.setIfInBounds_toArray, List.set_cons_zero, List.set_cons_succ]
    refine Ht.stepS (i := 18) ⟨some 104, _, _, _, _, _⟩ rfl (by kernel_rfl) (by rfl) (fun K hK => ?_)
    go_simp
    refine hK _ _ (fun hn => absurd (by decide) hn) (fun hnx => ?_)
    clear hK K hnx
    try simp only [Act.put, List.setIfInBounds_toArray, List.set_cons_zero, List.set_cons_succ]
    refine Ht.stepS (i := 19) ⟨none, _, _, _, _, _⟩ rfl (by kernel_rfl) (by rfl) (fun K hK => ?_)
    go_simp
    refine hK _ _ (fun hn => absurd (by decide) hn) (fun hnx => ?_)
    clear hK K hnx
    try simp only [Act.put, List.setIfInBounds_toArray, List.set_cons_zero, List.set_cons_succ]
    refine doneS (by kernel_rfl) ?_
    rw [← hW3]
    clear hW3 HR hm3 d1 d2 hS0 hS1 hS2 s1 s2 hf2 hi2
    go_wp2_with fail
    refine hAd.mono ?_
    rintro e W4 ⟨rfl, p4, f4⟩
    go_wp2_with fail
    go_ret
    exact done_of (by simp) p4 (fun x e => .inl e) HE.out.2.2 (Fr.of_below HE.out.2.1) (Fo.trans HE.out.1 f4)
end Go.Proofs.Ytcafiehlhdoibaa.Wh
