
/- WheelPlays: the act Add, kind 1 -/
import Derived.Test.YtcafiehlhdoibaaWh25
import Derived.Test.YtcafiehlhdoibaaWh21
namespace Go.Proofs.Ytcafiehlhdoibaa.Wh
open Go.RowKit Go.Lib Go.Sort Go.Maps Hp Ht
set_option linter.unusedVariables false
set_option maxRecDepth 20000
set_option maxHeartbeats 8000000 in
theorem do_add1 {B : Nat} {N : Nat → Prop} {X : World} {wb mb : Nat} {lv : Value} {most : Nat} {now : Int} {m : List (K × Int)} (h : Pl B N X wb mb lv most now m now m) (hB : B ≤ X.heap.size) (hN : ∀ x, N x → x < X.heap.size) (hm : m.length ≤ 100) {k : K} (hk : wk k) {kind ticks : Int} (hkind : kind = 1)
    (ht : -1125899906842624 ≤ ticks ∧ ticks ≤ 1125899906842624) (hmost : 1 ≤ most ∧ most ≤ 65536) :
    Calls Try.prog 9 #[.pointer (some ⟨wb, 0, none⟩), .pointer (some ⟨mb, 0, none⟩), .agg #[.int .i64 kind, ek k, .int .i64 ticks]] X (Done B N X wb mb most m) := by
  have hmix : Try.prog.follows .mixedOrders = true := by kernel_rfl
  subst hkind
  obtain ⟨z, hz, hF⟩ := find_is h.w.nd (by omega) k
  obtain ⟨la, lc, rfl⟩ := own_shape h.r
  obtain ⟨lv, hlv⟩ : ∃ lv, lv = Value.slice la m.length lc := ⟨_, rfl⟩
  obtain ⟨n, hn⟩ : ∃ n, n = m.length := ⟨_, rfl⟩
  obtain ⟨V, hV⟩ : ∃ V, V = X.alloc (.cells #[.int .i64 1, .string ⟨k.toArray⟩, .int .i64 ticks] 33) := ⟨_, rfl⟩
  obtain ⟨ab, hab⟩ : ∃ ab, ab = X.heap.size := ⟨_, rfl⟩
  have hbV : Below X.heap.size X V := by rw [hV]; exact (Below.refl _ _).alloc (Nat.le_refl _) _
  have hA : V.heap[ab]? = some (.cells #[.int .i64 1, .string ⟨k.toArray⟩, .int .i64 ticks] 33 (0, 0)) := by rw [hV, hab]; exact (MapKept.heap_alloc _ _).1
  have p := h.also (N' := fun x => x = ab) hbV (fun x e => by omega)
  have a0 : V.cell? ⟨ab, 0, none⟩ = some (.int .i64 1) := by rw [cell_of_row _ _ _ _ _ _ hA]; rfl
  have a1 : V.cell? ⟨ab, 1, none⟩ = some (.string ⟨k.toArray⟩) := by rw [cell_of_row _ _ _ _ _ _ hA]; rfl
  have a2 : V.cell? ⟨ab, 2, none⟩ = some (.int .i64 ticks) := by rw [cell_of_row _ _ _ _ _ _ hA]; rfl
  have c0 := p.cells.1
  have c1 := p.cells.2.1
  have c2 := p.cells.2.2.1
  have hF2 : ∀ W, W.heap = V.heap → Calls Try.prog 16 #[.slice la m.length lc, .string ⟨k.toArray⟩] W fun e Y => e = .returned (.int .i64 z) ∧ Y = W := fun W e => hF W _ ((src_own p.r).kept fun _ _ _ _ => by rw [e])
  have htk := h.w.tk
  have hT0 : -1125899906842624 ≤ now + ticks ∧ now + ticks ≤ 2251799813685248 := by have := htk.1; have := htk.2; unfold MT at *; omega
  obtain ⟨T, hT⟩ : ∃ T, T = now + ticks := ⟨_, rfl⟩
  have hw1 : IntKind.i64.wrap (now + ticks) = T := by rw [IntWalk.i64_in, hT] <;> omega
  have hw2 : wrap64 (now + ticks) = T := by rw [hT]; unfold wrap64; omega
  rw [← hT] at hT0
  have hsz : V.heap.size = X.heap.size + 1 := by rw [hV]; simp
  rw [← hn] at h p
  have H0 := Lib.hid (And.intro h (And.intro p (And.intro hbV (And.intro hz (And.intro hn (And.intro hsz (And.intro hA htk)))))))
  rw [← hn] at hF2 c2
  have HZ := Lib.hid (And.intro hT hab)
  clear h p hF hn hA hlv hbV hz hT htk
  unfold ek
  go_enter Try.func9, Try.ntmps9
  go_wp2_with fail
  rw [← hV, ← hab]
  clear hV hab
  go_quiet ((go_at_call 16; exact Calls.quiet_of_same (hF2 _ (by simp))))
  
  go_wp2_with fail
  go_quiet (fail)
  rename_i q1 _ _
  by_cases hk1 : k = []
  · subst hk1
    have hke : List.isEmpty ([] : K) = true := by rfl
    obtain ⟨h, p, hbV, hz, hn, hsz, hA, htk⟩ := H0.out
    have pW := p.old (below_drewN V (q1 + nq))
    have hAd := pW.addBad (k := []) (t := T) (.inl rfl)
    unfold ek at hAd
    have HB := Lib.hid (And.intro h hbV)
    clear H0 p hbV hz hn hA htk h pW hF2 hw1 hw2 hsz hT0 HZ
    go_wp2_with fail
    refine hAd.mono ?_
    rintro e W2 ⟨rfl, b2⟩
    go_wp2_with fail
    go_ret
    exact done_same HB.out.1 (by simp) (HB.out.2.trans ((below_drewN V (q1 + nq)).trans b2 |>.mono HB.out.2.size))
  by_cases hk2 : 0 ≤ T
  rotate_left
  · have hk2' : T < 0 := by omega
    have hke : List.isEmpty k = false := by simpa using hk1
    obtain ⟨h, p, hbV, hz, hn, hsz, hA, htk⟩ := H0.out
    have pW := p.old (below_drewN V (q1 + nq))
    have hAd := pW.addBad (k := k) (t := T) (.inr (by omega))
    unfold ek at hAd
    have HB := Lib.hid (And.intro h hbV)
    clear H0 p hbV hz hn hA htk h pW hF2 hw1 hw2 hsz hT0 HZ
    go_wp2_with fail
    refine hAd.mono ?_
    rintro e W2 ⟨rfl, b2⟩
    go_wp2_with fail
    go_ret
    exact done_same HB.out.1 (by simp) (HB.out.2.trans ((below_drewN V (q1 + nq)).trans b2 |>.mono HB.out.2.size))
  by_cases hk3 : T ≤ MT
  rotate_left
  · have hk3' : 1099511627776 < T := by unfold MT at hk3; omega
    have hke : List.isEmpty k = false := by simpa using hk1
    obtain ⟨h, p, hbV, hz, hn, hsz, hA, htk⟩ := H0.out
    have pW := p.old (below_drewN V (q1 + nq))
    have hAd := pW.addBad (k := k) (t := T) (.inr (by omega))
    unfold ek at hAd
    have HB := Lib.hid (And.intro h hbV)
    clear H0 p hbV hz hn hA htk h pW hF2 hw1 hw2 hsz hT0 HZ
    go_wp2_with fail
    refine hAd.mono ?_
    rintro e W2 ⟨rfl, b2⟩
    go_wp2_with fail
    go_ret
    exact done_same HB.out.1 (by simp) (HB.out.2.trans ((below_drewN V (q1 + nq)).trans b2 |>.mono HB.out.2.size))
  have hk3' : T ≤ 1099511627776 := by unfold MT at hk3; exact hk3
  rcases H0.out.2.2.2.1 with ⟨hz1, hk4⟩ | ⟨i, hz1, hi, hei⟩
  rotate_left
  · subst hz1
    have hi0 : (0 : Int) ≤ ((i : Nat) : Int) := by omega
    have hke : List.isEmpty k = false := by simpa using hk1
    obtain ⟨h, p, hbV, hz, hn, hsz, hA, htk⟩ := H0.out
    have pW := p.old (below_drewN V (q1 + nq))
    have hAd := fun W (b : Below V.heap.size V W) => ((p.old b).addNo (by omega) hk1 hk ⟨hk2, hk3⟩ (c := 8) (.inl ⟨List.mem_map.2 ⟨_, el_mem hi, hei⟩, rfl⟩))
    unfold ek at hAd
    unfold MT at hk3
    have HB := Lib.hid (And.intro h hbV)

    clear H0 p hbV hz hn hA htk h pW hF2 hw1 hw2 hsz hT0 HZ
    go_wp2_with fail

    refine (hAd _ (below_drewN V (q1 + nq))).mono ?_
    rintro e W2 ⟨rfl, b2⟩
    go_wp2_with fail
    go_ret
    exact done_same HB.out.1 (by simp) (HB.out.2.trans (((below_drewN V (q1 + nq))).trans b2 |>.mono HB.out.2.size))
  subst hz1
  by_cases hfull : most ≤ m.length
  · have hcf : ((most : Nat) : Int) ≤ ((n : Nat) : Int) := by have := H0.out.2.2.2.2.1; omega
    have hke : List.isEmpty k = false := by simpa using hk1
    obtain ⟨h, p, hbV, hz, hn, hsz, hA, htk⟩ := H0.out
    have pW := p.old (below_drewN V (q1 + nq))
    have hAd := fun W (b : Below V.heap.size V W) => ((p.old b).addNo (by omega) hk1 hk ⟨hk2, hk3⟩ (c := 6) (.inr ⟨hk4, hfull, rfl⟩))
    unfold ek at hAd
    unfold MT at hk3
    have HB := Lib.hid (And.intro h hbV)

    clear H0 p hbV hz hn hA htk h pW hF2 hw1 hw2 hsz hT0 HZ
    go_wp2_with fail
    go_quiet (fail)
    go_wp2_with fail
    refine (hAd _ (below_drewN V _)).mono ?_
    rintro e W2 ⟨rfl, b2⟩
    go_wp2_with fail
    go_ret
    exact done_same HB.out.1 (by simp) (HB.out.2.trans (((below_drewN V _)).trans b2 |>.mono HB.out.2.size))
  have hke : List.isEmpty k = false := by simpa using hk1
  have hcf : ((n : Nat) : Int) < ((most : Nat) : Int) := by have := H0.out.2.2.2.2.1; omega
  have HB := Lib.hid (And.intro hk4 (And.intro hfull hk3))
  unfold MT at hk3
  clear hk4 hfull hw1 hw2
  go_wp2_with fail
  go_quiet (fail)
  go_wp2_with fail
  rename_i q2 _ _ _ _ _ _
  obtain ⟨h, p, hbV, hz, hn, hsz, hA, htk⟩ := H0.out
  have hbW : Below V.heap.size V ((V.drewN (q1 + q2)).drewN nq) := ⟨rfl, rfl, rfl, Nat.le_refl _, fun _ _ => rfl⟩
  generalize (V.drewN (q1 + q2)).drewN nq = W1 at hbW ⊢
  have pW := p.old hbW
  have pD : Pl B (fun x => N x ∨ x = ab) W1.drew wb mb (.slice la n lc) most now m now m := pW.old ⟨rfl, rfl, rfl, Nat.le_refl _, fun _ _ => rfl⟩
  have d2 := pW.cells.2.2.1
  have d1 : W1.cell? ⟨ab, 1, none⟩ = some (.string ⟨k.toArray⟩) := (hbW.cell (World.block_lt_of_cell? _ _ a1)).trans a1
  have hN' : ∀ x, (N x ∨ x = ab) → x < W1.drew.heap.size := by
    have h1 : V.heap.size ≤ W1.drew.heap.size := hbW.size
    have h2 := HZ.out.2
    rintro x (e | e)
    · have := hN x e; omega
    · omega
  have hB' : B ≤ W1.drew.heap.size := by have h1 : V.heap.size ≤ W1.drew.heap.size := hbW.size; omega
  have hS1 : (W1.drew.alloc (.cells #[.string ⟨k.toArray⟩, .int .i64 T] 42)).cell? ⟨mb, 2, none⟩ = some (.slice la n lc) ∧ (W1.drew.alloc (.cells #[.string ⟨k.toArray⟩, .int .i64 T] 42)).cell? ⟨ab, 1, none⟩ = some (.string ⟨k.toArray⟩) := by
    have hb1 : Below W1.drew.heap.size W1.drew (W1.drew.alloc (.cells #[.string ⟨k.toArray⟩, .int .i64 T] 42)) := (Below.refl _ _).alloc (Nat.le_refl _) _
    exact ⟨(hb1.cell (p := ⟨mb, 2, none⟩) pD.lt).trans pD.cells.2.2.1, (hb1.cell (p := ⟨ab, 1, none⟩) (hN' ab (.inr rfl))).trans d1⟩
  obtain ⟨v2, X2, r1, r2, ⟨u, r3⟩, p2, f2⟩ := pD.push hB' hN' (by omega) k T 29
  obtain ⟨a3, c3, hv3⟩ := own_shape p2.r
  obtain ⟨n3, hn3⟩ : ∃ n3, n3 = (m ++ [(k, T)]).length := ⟨_, rfl⟩
  rw [← hn3] at hv3
  subst hv3
  clear hn3
  have hN3 : ∀ x, (N x ∨ x = ab) → x < (X2.setCell ⟨mb, 2, none⟩ (.slice a3 n3 c3)).heap.size := fun x e => Nat.lt_of_lt_of_le (hN' x e) f2.size
  have hAd := p2.add (Nat.le_trans hB' f2.size) hN3 (by omega) hk1 hk ⟨hk2, HB.out.2.2⟩ HB.out.1 (by have := HB.out.2.1; omega)
  obtain ⟨W3, hW3⟩ : ∃ W, W = X2.setCell ⟨mb, 2, none⟩ (.slice a3 n3 c3) := ⟨_, rfl⟩
  have e1 : W3.cell? ⟨ab, 1, none⟩ = some (.string ⟨k.toArray⟩) := by
    have hb := f2.kept (k := ab) (.inr rfl) (hN' ab (.inr rfl))
    rw [← hW3] at hb
    have d3 : W1.drew.cell? ⟨ab, 1, none⟩ = some (.string ⟨k.toArray⟩) := d1
    unfold World.cell? at d3 ⊢
    rw [hb]; exact d3
  have f3 : Fo B (fun x => N x ∨ x = ab) V W3 := by
    rw [hW3]
    exact Fo.trans (Y := W1.drew) (Fr.of_below ⟨hbW.os, hbW.tape, hbW.output, hbW.size, hbW.block⟩) f2
  rw [← hW3] at hAd
  unfold ek at hAd r1
  unfold er at r1
  have HE := Lib.hid (And.intro f3 (And.intro hbV p2))
  clear h p hbV hz hn hsz hA htk hbW pW pD hN' hB' hN3 p2 f2 f3 H0 HZ a0 a1 a2 c0 c1 c2 hF2 hT0
  refine begin' 99 (fun _ => True) hmix trivial (fun _ => ?_)
  refine Ht.takeN (i := 0) ⟨some 36, _, _, _, _, _⟩ (.pointer (some ⟨mb, 0, none⟩)) rfl (Nat.le_of_ble_eq_true (by kernel_rfl)) (by kernel_rfl) (by kernel_rfl) (by kernel_rfl) (by kernel_rfl) trivial (Or.inl ⟨by rfl, by (intro X hX; go_simp)⟩) ?_
  simp only [Act.put, List.setIfInBounds_toArray, List.set_cons_zero, List.set_cons_succ]
  refine Ht.takeN (i := 1) ⟨some 37, _, _, _, _, _⟩ (.pointer (some ⟨mb, 0, none⟩)) rfl (Nat.le_of_ble_eq_true (by kernel_rfl)) (by kernel_rfl) (by kernel_rfl) (by kernel_rfl) (by kernel_rfl) trivial (Or.inl ⟨by rfl, by (intro X hX; go_simp)⟩) ?_
  simp only [Act.put, List.setIfInBounds_toArray, List.set_cons_zero, List.set_cons_succ]
  refine Ht.takeN (i := 2) ⟨some 38, _, _, _, _, _⟩ (.pointer (some ⟨mb, 0, none⟩)) rfl (Nat.le_of_ble_eq_true (by kernel_rfl)) (by kernel_rfl) (by kernel_rfl) (by kernel_rfl) (by kernel_rfl) trivial (Or.inl ⟨by rfl, by (intro X hX; go_simp)⟩) ?_
  simp only [Act.put, List.setIfInBounds_toArray, List.set_cons_zero, List.set_cons_succ]
  refine Ht.takeN (i := 3) ⟨some 39, _, _, _, _, _⟩ (.pointer (some ⟨mb, 2, none⟩)) rfl (Nat.le_of_ble_eq_true (by kernel_rfl)) (by kernel_rfl) (by kernel_rfl) (by kernel_rfl) (by kernel_rfl) trivial (Or.inl ⟨by rfl, by (intro X hX; go_simp)⟩) ?_
  simp only [Act.put, List.setIfInBounds_toArray, List.set_cons_zero, List.set_cons_succ]
  refine Ht.takeN (i := 5) ⟨some 41, _, _, _, _, _⟩ (.pointer (some ⟨ab, 1, none⟩)) rfl (Nat.le_of_ble_eq_true (by kernel_rfl)) (by kernel_rfl) (by kernel_rfl) (by kernel_rfl) (by kernel_rfl) trivial (Or.inl ⟨by rfl, by (intro X hX; go_simp)⟩) ?_
  simp only [Act.put, List.setIfInBounds_toArray, List.set_cons_zero, List.set_cons_succ]
  refine Ht.takeN (i := 7) ⟨some 43, _, _, _, _, _⟩ (.int .i64 T) rfl (Nat.le_of_ble_eq_true (by kernel_rfl)) (by kernel_rfl) (by kernel_rfl) (by kernel_rfl) (by kernel_rfl) trivial (Or.inl ⟨by rfl, by (intro X hX; go_simp)⟩) ?_
  simp only [Act.put, List.setIfInBounds_toArray, List.set_cons_zero, List.set_cons_succ]
  refine later [10, 11, 12, 13] (fun Z => Z.cell? ⟨mb, 2, none⟩ = some (.slice la n lc) ∧ Z.cell? ⟨ab, 1, none⟩ = some (.string ⟨k.toArray⟩)) (⟨d2, d1⟩) (fun hS0 => ?_)
  refine Ht.takeS 10 (i := 4) ⟨some 40, _, _, _, _, _⟩ (.slice la n lc) rfl (by kernel_rfl) (by kernel_rfl) (by kernel_rfl) (by kernel_rfl) (by kernel_rfl) hS0 (Or.inl ⟨by rfl, by (intro X hX; have := hX.1; go_simp)⟩) ?_
  simp only [Act.put, List.setIfInBounds_toArray, List.set_cons_zero, List.set_cons_succ]
  refine Ht.takeS 10 (i := 6) ⟨some 42, _, _, _, _, _⟩ (.string ⟨k.toArray⟩) rfl (by kernel_rfl) (by kernel_rfl) (by kernel_rfl) (by kernel_rfl) (by kernel_rfl) hS0 (Or.inl ⟨by rfl, by (intro X hX; have := hX.2; go_simp)⟩) ?_
  simp only [Act.put, List.setIfInBounds_toArray, List.set_cons_zero, List.set_cons_succ]
  refine Ht.takeS 10 (i := 8) ⟨some 44, _, _, _, _, _⟩ (.agg #[.string ⟨k.toArray⟩, .int .i64 T]) rfl (by kernel_rfl) (by kernel_rfl) (by kernel_rfl) (by kernel_rfl) (by kernel_rfl) hS0 (Or.inl ⟨by rfl, by (intro X hX; go_simp)⟩) ?_
  simp only [Act.put, List.setIfInBounds_toArray, List.set_cons_zero, List.set_cons_succ]
  refine Ht.stepS (i := 9) ⟨some 45, _, _, _, _, _⟩ rfl (by kernel_rfl) (by rfl) (fun K hK => ?_)
  go_simp
  refine hK _ _ (fun hn => hS1) (fun hnx => ?_)
  clear hK K hnx
  try simp only [Act.put, List.setIfInBounds_toArray, List.set_cons_zero, List.set_cons_succ]
  refine Ht.stepS (i := 10) ⟨some 46, _, _, _, _, _⟩ rfl (by kernel_rfl) (by rfl) (fun K hK => ?_)
  refine wp_append' _ _ _ rfl rfl rfl r1 ?_
  refine hK _ _ (fun hn => absurd (by decide) hn) (fun hnx => ?_)
  clear hK K hnx
  simp only [Act.put, List.setIfInBounds_toArray, List.set_cons_zero, List.set_cons_succ]
  refine Ht.stepS (i := 11) ⟨some 47, _, _, _, _, _⟩ rfl (by kernel_rfl) (by rfl) (fun K hK => ?_)
  go_simp
  refine hK _ _ (fun hn => absurd (by decide) hn) (fun hnx => ?_)
  clear hK K hnx
  try simp only [Act.put, List.setIfInBounds_toArray, List.set_cons_zero, List.set_cons_succ]
  refine Ht.stepS (i := 12) ⟨some 48, _, _, _, _, _⟩ rfl (by kernel_rfl) (by rfl) (fun K hK => ?_)
  go_simp
  refine hK _ _ (fun hn => absurd (by decide) hn) (fun hnx => ?_)
  clear hK K hnx
  try simp only [Act.put, List.setIfInBounds_toArray, List.set_cons_zero, List.set_cons_succ]
  refine Ht.stepS (i := 13) ⟨none, _, _, _, _, _⟩ rfl (by kernel_rfl) (by rfl) (fun K hK => ?_)
  go_simp
  refine hK _ _ (fun hn => absurd (by decide) hn) (fun hnx => ?_)
  clear hK K hnx
  try simp only [Act.put, List.setIfInBounds_toArray, List.set_cons_zero, List.set_cons_succ]
  refine doneS (by kernel_rfl) ?_
  rw [← hW3]
  clear hW3 r1 r2 r3 d1 d2 hS0 hS1
  go_wp2_with fail
  refine hAd.mono ?_
  rintro e W4 ⟨rfl, p4, f4⟩
  go_wp2_with fail
  go_ret
  exact done_of (by simp) p4 (fun x e => .inl e) (by simp) (Fr.of_below HE.out.2.1) (Fo.trans HE.out.1 f4)
end Go.Proofs.Ytcafiehlhdoibaa.Wh
