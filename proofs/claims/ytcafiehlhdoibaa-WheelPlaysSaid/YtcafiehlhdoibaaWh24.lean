
/- the law's sorted -/
import Derived.Test.YtcafiehlhdoibaaWh23
namespace Go.Proofs.Ytcafiehlhdoibaa.Wh
open Go.RowKit Go.Lib Go.Sort Go.Maps Hp Ht
set_option linter.unusedVariables false
set_option maxRecDepth 20000
theorem pair_srt {l : List (K × Int)} (h : l.Pairwise fun a b => ltp b a = false) : Srt l := by
  intro i j hij hj
  rw [el_eq (show i < l.length by omega), el_eq hj]
  exact List.pairwise_iff_getElem.1 h i j _ _ hij
theorem srt_ins {o : List (K × Int)} {x : K × Int} {i : Nat} (h : Srt o) (hi : i ≤ o.length) (h1 : ∀ j, j < i → ltp (el o j) x = true) (h2 : i < o.length → ltp (el o i) x = false) : Srt (o.take i ++ x :: o.drop i) := by
  have W := swo (K := K) Hp.tot_str
  refine pair_srt ?_
  have hp := srt_pair h
  rw [← List.take_append_drop i o, List.pairwise_append] at hp
  obtain ⟨p1, p2, p3⟩ := hp
  rw [List.pairwise_append]
  refine ⟨p1, ?_, fun a ha b hb => ?_⟩
  · rw [List.pairwise_cons]
    refine ⟨fun b hb => ?_, p2⟩
    by_cases hl : i < o.length
    · have e : o.drop i = el o i :: o.drop (i + 1) := by rw [List.drop_eq_getElem_cons hl, el_eq hl]
      rw [e] at hb p2
      rcases List.mem_cons.1 hb with rfl | hb
      · exact h2 hl
      · exact W.ntrans _ _ _ ((List.pairwise_cons.1 p2).1 b hb) (h2 hl)
    · rw [List.drop_eq_nil_of_le (by omega)] at hb
      simp at hb
  · rcases List.mem_cons.1 hb with rfl | hb
    · obtain ⟨j, hj, rfl⟩ := mem_el ha
      rw [List.length_take] at hj
      rw [el_take _ (by omega)]
      have h3 := h1 j (by omega)
      cases e : ltp b (el o j) with
      | false => rfl
      | true =>
        have := W.trans _ _ _ e h3
        rw [W.irrefl] at this; cases this
    · exact p3 a ha b hb
theorem perm_ins (o : List (K × Int)) (x : K × Int) (i : Nat) : (o.take i ++ x :: o.drop i).Perm (o ++ [x]) := by
  refine List.perm_middle.trans ?_
  rw [List.take_append_drop]
  exact (List.perm_append_singleton x o).symm
set_option maxHeartbeats 4000000 in
theorem sorted_any (X : World) {v : Value} {l : List (K × Int)} (h : Src X v l) (hl : l.length ≤ 1000) :
    Calls Try.prog 12 #[v] X fun e Y => ∃ v' ls, e = .returned v' ∧ ls.Perm l ∧ Srt ls ∧ Own Y X.heap.size v' ls ∧ Below X.heap.size X Y := by
  have hmix : Try.prog.follows .mixedOrders = true := by kernel_rfl
  obtain ⟨a1, c1, rfl⟩ := h.shape
  obtain ⟨n, hn⟩ : ∃ n, n = l.length := ⟨_, rfl⟩
  have HS := Lib.hid (And.intro h (And.intro hl hn))
  rw [← hn]
  clear h hl hn
  go_enter Try.func12, Try.ntmps12
  go_wp2_with fail
  go_loopw [3, 9] (fun ov cv wr => ∃ (v' : Value) (o : List (K × Int)) (j : Nat), v' = ov ∧ cv = .int .i64 ((j : Nat) : Int) ∧ j ≤ n ∧ o.Perm (l.take j) ∧ Srt o ∧ Own wr X.heap.size v' o ∧ Below X.heap.size X wr) (fun _ cv _ => n - (RowKit.intOf cv).toNat)
  case atStart => exact ⟨_, [], 0, rfl, rfl, Nat.zero_le _, by simp, fun i j _ hj => by simp at hj, ⟨rfl, .inl ⟨rfl, rfl⟩⟩, Below.refl _ _⟩
  case round =>
    obtain ⟨v', o, j, hv, hcv, hjn, hp, hs, ho, hb⟩ := hrel
    subst hv hcv
    by_cases hjx : j < n
    · obtain ⟨ha, hl, hn⟩ := HS.out
      have hil : j < l.length := by omega
      obtain ⟨g1, e1, k1, t1⟩ : ∃ g, a1 = some ⟨g, 0, none⟩ ∧ X.cell? ⟨g, j * 2, none⟩ = some (ek (el l j).1) ∧ X.cell? ⟨g, j * 2 + 1, none⟩ = some (er (el l j).2) := by
        rcases ha with ⟨h1, _⟩ | ⟨g, c, h1, h2⟩
        · rw [h1] at hil; simp at hil
        · cases h1; exact ⟨g, rfl, h2 j hil⟩
      subst e1
      have k2 := (hb.cell (World.block_lt_of_cell? _ _ k1)).trans k1
      have t2 := (hb.cell (World.block_lt_of_cell? _ _ t1)).trans t1
      obtain ⟨k, hk⟩ : ∃ k, k = (el l j).1 := ⟨_, rfl⟩
      obtain ⟨t, ht⟩ : ∃ t, t = (el l j).2 := ⟨_, rfl⟩
      rw [← hk] at k2
      rw [← ht] at t2
      obtain ⟨bq, hbq⟩ : ∃ b, b = wr.heap.size := ⟨_, rfl⟩
      obtain ⟨V, hV⟩ : ∃ V, V = wr.alloc (.cells #[.string ⟨k.toArray⟩, .int .i64 t] 42) := ⟨_, rfl⟩
      have hbV : Below wr.heap.size wr V := by rw [hV]; exact (Below.refl _ wr).alloc (Nat.le_refl _) _
      have oV : V.heap[bq]? = some (.cells #[.string ⟨k.toArray⟩, .int .i64 t] 42 (0, 0)) := by rw [hV, hbq]; exact (MapKept.heap_alloc wr _).1
      have hoV : Own V X.heap.size v' o := own_kept ho fun b hb2 => hbV.block b (own_cell ho hb2).2.1
      have hol : o.length ≤ 1000 := by have := hp.length_eq; rw [List.length_take] at this; omega
      have hjc : ((j : Nat) : Int) < ((n : Nat) : Int) := by omega
      have hj0 : (0 : Int) ≤ ((j : Nat) : Int) := by omega
      have hj4 : ((j : Nat) : Int) ≤ 1000000 := by omega
      have HO := Lib.hid (And.intro hp (And.intro hs (And.intro hjx (And.intro hk (And.intro ht (And.intro hil (And.intro hol hl)))))))
      have HV := Lib.hid (And.intro hoV (And.intro oV (hb.trans (hbV.mono hb.size))))
      obtain ⟨av, cv, rfl⟩ := own_shape ho
      obtain ⟨m, hm⟩ : ∃ m, m = o.length := ⟨_, rfl⟩
      rw [← hm]
      have HM := Lib.hid hm
      unfold ek at k2
      unfold er at t2
      clear ha hl hn k1 t1 hp hs ho hb hjx hjn hil hk ht hbV oV hoV hol hm
      go_wp2_with fail
      rw [← hV, ← hbq]
      clear hV hbq k2 t2
      go_loopw [6] (fun iv wr => ∃ (i : Nat), iv = .int .i64 ((i : Nat) : Int) ∧ i ≤ m ∧ (∀ q, q < i → ltp (el o q) (k, t) = true) ∧ Own wr X.heap.size (.slice av o.length cv) o ∧ wr.heap[bq]? = some (.cells #[.string ⟨k.toArray⟩, .int .i64 t] 42 (0, 0)) ∧ Below X.heap.size X wr) (fun iv _ => m - (RowKit.intOf iv).toNat)
      case atStart => exact ⟨0, rfl, Nat.zero_le _, fun q hq => by omega, HV.out.1, HV.out.2.1, HV.out.2.2⟩
      case round =>
        obtain ⟨i, hiv, him, hlo, ho, oV, hb⟩ := hrel
        subst hiv
        have hi0 : (0 : Int) ≤ ((i : Nat) : Int) := by omega
        have hi4 : ((i : Nat) : Int) ≤ 1000000 := by have h1 := HO.out.2.2.2.2.2.2.1; have h2 := HM.out; omega
        have q0 : wr.cell? ⟨bq, 0, none⟩ = some (.string ⟨k.toArray⟩) := by rw [cell_of_row _ _ _ _ _ _ oV]; rfl
        have q1 : wr.cell? ⟨bq, 1, none⟩ = some (.int .i64 t) := by rw [cell_of_row _ _ _ _ _ _ oV]; rfl
        by_cases hix : i < m
        · have hio : i < o.length := by rw [← HM.out]; exact hix
          obtain ⟨g, eg, k3, t3⟩ : ∃ g, av = some ⟨g, 0, none⟩ ∧ wr.cell? ⟨g, i * 2, none⟩ = some (ek (el o i).1) ∧ wr.cell? ⟨g, i * 2 + 1, none⟩ = some (er (el o i).2) := by
            rcases src_own ho with ⟨h1, _⟩ | ⟨g, c, h1, h2⟩
            · rw [h1] at hio; simp at hio
            · cases h1; exact ⟨g, rfl, h2 i hio⟩
          subst eg
          have hF := fun W => first_any W (el o i) (k, t)
          have hel : el o i = ((el o i).1, (el o i).2) := rfl
          obtain ⟨k5, hk5⟩ : ∃ k, k = (el o i).1 := ⟨_, rfl⟩
          obtain ⟨t5, ht5⟩ : ∃ t, t = (el o i).2 := ⟨_, rfl⟩
          rw [← hk5] at k3 hel
          rw [← ht5] at t3 hel
          rw [hel] at hF
          have hic : ((i : Nat) : Int) < ((m : Nat) : Int) := by omega
          have HI := Lib.hid (And.intro hlo (And.intro ho (And.intro oV (And.intro hb (And.intro hix hel)))))
          unfold ek at k3
          unfold er at t3
          unfold ek er at hF
          dsimp only at hF
          clear hlo ho oV hb hel hk5 ht5 him hix hio
          generalize hbo : ltp (k5, t5) (k, t) = bo at hF
          have HBO := Lib.hid hbo
          clear hbo
          go_wp2_with fail
          refine begin' 99 (fun _ => True) hmix trivial (fun _ => ?_)
          refine later [10, 11] (fun Z => Z.cell? ⟨g, i * 2, none⟩ = some (.string ⟨k5.toArray⟩) ∧ Z.cell? ⟨g, i * 2 + 1, none⟩ = some (.int .i64 t5) ∧ Z.cell? ⟨bq, 0, none⟩ = some (.string ⟨k.toArray⟩) ∧ Z.cell? ⟨bq, 1, none⟩ = some (.int .i64 t)) (⟨k3, t3, q0, q1⟩) (fun hS0 => ?_)
          refine Ht.takeS 10 (i := 0) ⟨some 13, _, _, _, _, _⟩ (.int .i64 ((i : Nat) : Int)) rfl (by kernel_rfl) (by kernel_rfl) (by kernel_rfl) (by kernel_rfl) (by kernel_rfl) hS0 (Or.inl ⟨by rfl, by (intro X hX; go_simp)⟩) ?_
          simp only [Act.put, List.setIfInBounds_toArray, List.set_cons_zero, List.set_cons_succ]
          refine Ht.takeS 10 (i := 1) ⟨some 14, _, _, _, _, _⟩ (.slice (some ⟨g, 0, none⟩) m cv) rfl (by kernel_rfl) (by kernel_rfl) (by kernel_rfl) (by kernel_rfl) (by kernel_rfl) hS0 (Or.inl ⟨by rfl, by (intro X hX; go_simp)⟩) ?_
          simp only [Act.put, List.setIfInBounds_toArray, List.set_cons_zero, List.set_cons_succ]
          refine Ht.takeS 10 (i := 2) ⟨some 15, _, _, _, _, _⟩ (.int .i64 ((m : Nat) : Int)) rfl (by kernel_rfl) (by kernel_rfl) (by kernel_rfl) (by kernel_rfl) (by kernel_rfl) hS0 (Or.inl ⟨by rfl, by (intro X hX; go_simp)⟩) ?_
          simp only [Act.put, List.setIfInBounds_toArray, List.set_cons_zero, List.set_cons_succ]
          refine Ht.takeS 10 (i := 3) ⟨some 16, _, _, _, _, _⟩ (.bool true) rfl (by kernel_rfl) (by kernel_rfl) (by kernel_rfl) (by kernel_rfl) (by kernel_rfl) hS0 (Or.inl ⟨by rfl, by (intro X hX; go_simp)⟩) ?_
          simp only [Act.put, List.setIfInBounds_toArray, List.set_cons_zero, List.set_cons_succ]
          refine Ht.takeS 10 (i := 4) ⟨some 17, _, _, _, _, _⟩ (.bool true) rfl (by kernel_rfl) (by kernel_rfl) (by kernel_rfl) (by kernel_rfl) (by kernel_rfl) hS0 (Or.inl ⟨by rfl, by (intro X hX; go_simp)⟩) ?_
          simp only [Act.put, List.setIfInBounds_toArray, List.set_cons_zero, List.set_cons_succ]
          refine Ht.takeS 10 (i := 5) ⟨some 18, _, _, _, _, _⟩ (.slice (some ⟨g, 0, none⟩) m cv) rfl (by kernel_rfl) (by kernel_rfl) (by kernel_rfl) (by kernel_rfl) (by kernel_rfl) hS0 (Or.inl ⟨by rfl, by (intro X hX; go_simp)⟩) ?_
          simp only [Act.put, List.setIfInBounds_toArray, List.set_cons_zero, List.set_cons_succ]
          refine Ht.takeS 10 (i := 6) ⟨some 19, _, _, _, _, _⟩ (.int .i64 ((i : Nat) : Int)) rfl (by kernel_rfl) (by kernel_rfl) (by kernel_rfl) (by kernel_rfl) (by kernel_rfl) hS0 (Or.inl ⟨by rfl, by (intro X hX; go_simp)⟩) ?_
          simp only [Act.put, List.setIfInBounds_toArray, List.set_cons_zero, List.set_cons_succ]
          refine Ht.takeS 10 (i := 7) ⟨some 20, _, _, _, _, _⟩ (.pointer (some ⟨g, i * 2, none⟩)) rfl (by kernel_rfl) (by kernel_rfl) (by kernel_rfl) (by kernel_rfl) (by kernel_rfl) hS0 (Or.inl ⟨by rfl, by (intro X hX; go_simp)⟩) ?_
          simp only [Act.put, List.setIfInBounds_toArray, List.set_cons_zero, List.set_cons_succ]
          refine Ht.takeS 10 (i := 8) ⟨some 21, _, _, _, _, _⟩ (.agg #[.string ⟨k5.toArray⟩, .int .i64 t5]) rfl (by kernel_rfl) (by kernel_rfl) (by kernel_rfl) (by kernel_rfl) (by kernel_rfl) hS0 (Or.inl ⟨by rfl, by (intro X hX; have := hX.1; have := hX.2.1; go_simp)⟩) ?_
          simp only [Act.put, List.setIfInBounds_toArray, List.set_cons_zero, List.set_cons_succ]
          refine Ht.takeS 10 (i := 9) ⟨some 22, _, _, _, _, _⟩ (.agg #[.string ⟨k.toArray⟩, .int .i64 t]) rfl (by kernel_rfl) (by kernel_rfl) (by kernel_rfl) (by kernel_rfl) (by kernel_rfl) hS0 (Or.inl ⟨by rfl, by (intro X hX; have := hX.2.2.1; have := hX.2.2.2; go_simp)⟩) ?_
          simp only [Act.put, List.setIfInBounds_toArray, List.set_cons_zero, List.set_cons_succ]
          refine Ht.stepS (i := 10) ⟨some 23, _, _, _, _, _⟩ rfl (by kernel_rfl) (by rfl) (fun K hK => ?_)
          refine Ht.enter 24 #[.agg #[.string ⟨k5.toArray⟩, .int .i64 t5], .agg #[.string ⟨k.toArray⟩, .int .i64 t]] (by have hen := fun args w => enters_of (P := Try.prog) Try.func24 (by kernel_rfl) rfl args w; go_simp) (hF _) ?_
          rintro e W2 ⟨rfl, b2⟩
          have b2' : Below wr.heap.size wr W2 := ⟨b2.os, b2.tape, b2.output, b2.size, b2.block⟩
          have H2 := Lib.hid b2'
          clear b2 b2'
          refine ⟨_, rfl, hK _ _ (fun hn => absurd (by decide) hn) (fun hnx => ?_)⟩
          clear hK K hnx
          simp only [Act.put, List.setIfInBounds_toArray, List.set_cons_zero, List.set_cons_succ]
          refine Ht.stepS (i := 11) ⟨some 24, _, _, _, _, _⟩ rfl (by kernel_rfl) (by rfl) (fun K hK => ?_)
          go_simp
          refine hK _ _ (fun hn => absurd (by decide) hn) (fun hnx => ?_)
          clear hK K hnx
          try simp only [Act.put, List.setIfInBounds_toArray, List.set_cons_zero, List.set_cons_succ]
          refine doneS (by kernel_rfl) ?_
          cases bo with
          | true =>
            go_wp2_with fail
            go_roundw
            case rel =>
              obtain ⟨hlo, ho, oV, hb, hix, hel⟩ := HI.out
              exact ⟨i + 1, by simp, hix, fun q hq => by
                by_cases e : q = i
                · subst e; rw [hel]; exact HBO.out
                · exact hlo q (by omega), own_kept ho fun b hb2 => H2.out.block b (own_cell ho hb2).2.1, (H2.out.block bq (Array.getElem?_eq_some_iff.1 oV).1).trans oV, hb.trans (H2.out.mono hb.size)⟩
            case measure => have := HI.out.2.2.2.2.1; simp [RowKit.intOf]; omega
          | false =>
            go_wp2_with fail
            obtain ⟨hlo, ho, oV, hb, hix, hel⟩ := HI.out
            have ho2 : Own W2 X.heap.size (.slice (some ⟨g, 0, none⟩) o.length cv) o := own_kept ho fun b hb2 => H2.out.block b (own_cell ho hb2).2.1
            have oV2 := (H2.out.block bq (Array.getElem?_eq_some_iff.1 oV).1).trans oV
            have hb2 := hb.trans (H2.out.mono hb.size)
            have hstop : i < o.length → ltp (el o i) (k, t) = false := fun _ => by rw [hel]; exact HBO.out
            have him : i ≤ o.length := by rw [← HM.out]; omega
            clear HI H2 hF q0 q1 k3 t3 hS0 hb ho oV
            obtain ⟨va, vb, v1, X1, v2, X2, r1, r2, r3, r4, own2, b3⟩ := ins_runs W2.drew (B := X.heap.size) (v := .slice (some ⟨g, 0, none⟩) o.length cv) (o := o) (own_kept ho2 fun _ _ => rfl) him (by have := HO.out.2.2.2.2.2.2.1; omega) (k, t) 29
            rw [← HM.out] at r1 r2
            have p0 : W2.cell? ⟨bq, 0, none⟩ = some (.string ⟨k.toArray⟩) := by rw [cell_of_row _ _ _ _ _ _ oV2]; rfl
            have p1 : W2.cell? ⟨bq, 1, none⟩ = some (.int .i64 t) := by rw [cell_of_row _ _ _ _ _ _ oV2]; rfl
            unfold ek er at r3
            dsimp only at r3
            have HE := Lib.hid (And.intro (srt_ins HO.out.2.1 him hlo hstop) (And.intro own2 (And.intro b3 hb2)))
            have H34 := Lib.hid (And.intro r3 r4)
            clear own2 b3 hb2 hstop him hlo ho2 oV2 r3 r4
            refine begin' 99 (fun _ => True) hmix trivial (fun _ => ?_)
            refine Ht.takeN (i := 0) ⟨some 27, _, _, _, _, _⟩ (.slice (some ⟨g, 0, none⟩) m cv) rfl (Nat.le_of_ble_eq_true (by kernel_rfl)) (by kernel_rfl) (by kernel_rfl) (by kernel_rfl) (by kernel_rfl) trivial (Or.inl ⟨by rfl, by (intro X hX; go_simp)⟩) ?_
            simp only [Act.put, List.setIfInBounds_toArray, List.set_cons_zero, List.set_cons_succ]
            refine Ht.takeN (i := 1) ⟨some 28, _, _, _, _, _⟩ (.int .i64 ((i : Nat) : Int)) rfl (Nat.le_of_ble_eq_true (by kernel_rfl)) (by kernel_rfl) (by kernel_rfl) (by kernel_rfl) (by kernel_rfl) trivial (Or.inl ⟨by rfl, by (intro X hX; go_simp)⟩) ?_
            simp only [Act.put, List.setIfInBounds_toArray, List.set_cons_zero, List.set_cons_succ]
            refine Ht.takeN (i := 2) ⟨some 29, _, _, _, _, _⟩ (.int .i64 ((i : Nat) : Int)) rfl (Nat.le_of_ble_eq_true (by kernel_rfl)) (by kernel_rfl) (by kernel_rfl) (by kernel_rfl) (by kernel_rfl) trivial (Or.inl ⟨by rfl, by (intro X hX; go_simp)⟩) ?_
            simp only [Act.put, List.setIfInBounds_toArray, List.set_cons_zero, List.set_cons_succ]
            refine Ht.takeN (i := 3) ⟨some 30, _, _, _, _, _⟩ (va) rfl (Nat.le_of_ble_eq_true (by kernel_rfl)) (by kernel_rfl) (by kernel_rfl) (by kernel_rfl) (by kernel_rfl) trivial (Or.inl ⟨by rfl, by (intro X hX; go_simp)⟩) ?_
            simp only [Act.put, List.setIfInBounds_toArray, List.set_cons_zero, List.set_cons_succ]
            refine Ht.takeN (i := 6) ⟨some 33, _, _, _, _, _⟩ (.slice (some ⟨g, 0, none⟩) m cv) rfl (Nat.le_of_ble_eq_true (by kernel_rfl)) (by kernel_rfl) (by kernel_rfl) (by kernel_rfl) (by kernel_rfl) trivial (Or.inl ⟨by rfl, by (intro X hX; go_simp)⟩) ?_
            simp only [Act.put, List.setIfInBounds_toArray, List.set_cons_zero, List.set_cons_succ]
            refine Ht.takeN (i := 7) ⟨some 34, _, _, _, _, _⟩ (.int .i64 ((i : Nat) : Int)) rfl (Nat.le_of_ble_eq_true (by kernel_rfl)) (by kernel_rfl) (by kernel_rfl) (by kernel_rfl) (by kernel_rfl) trivial (Or.inl ⟨by rfl, by (intro X hX; go_simp)⟩) ?_
            simp only [Act.put, List.setIfInBounds_toArray, List.set_cons_zero, List.set_cons_succ]
            refine Ht.takeN (i := 8) ⟨some 35, _, _, _, _, _⟩ (vb) rfl (Nat.le_of_ble_eq_true (by kernel_rfl)) (by kernel_rfl) (by kernel_rfl) (by kernel_rfl) (by kernel_rfl) trivial (Or.inl ⟨by rfl, by (intro X hX; go_simp)⟩) ?_
            simp only [Act.put, List.setIfInBounds_toArray, List.set_cons_zero, List.set_cons_succ]
            refine later [5, 9, 10, 11] (fun Z => Z.cell? ⟨bq, 0, none⟩ = some (.string ⟨k.toArray⟩) ∧ Z.cell? ⟨bq, 1, none⟩ = some (.int .i64 t)) (⟨p0, p1⟩) (fun hS9 => ?_)
            refine Ht.takeS 10 (i := 4) ⟨some 31, _, _, _, _, _⟩ (.agg #[.string ⟨k.toArray⟩, .int .i64 t]) rfl (by kernel_rfl) (by kernel_rfl) (by kernel_rfl) (by kernel_rfl) (by kernel_rfl) hS9 (Or.inl ⟨by rfl, by (intro X hX; have := hX.1; have := hX.2; go_simp)⟩) ?_
            simp only [Act.put, List.setIfInBounds_toArray, List.set_cons_zero, List.set_cons_succ]
            refine Ht.stepS (i := 5) ⟨some 32, _, _, _, _, _⟩ rfl (by kernel_rfl) (by rfl) (fun K hK => ?_)
            go_simp
            refine hK _ _ (fun hn => absurd (by decide) hn) (fun hnx => ?_)
            clear hK K hnx
            try simp only [Act.put, List.setIfInBounds_toArray, List.set_cons_zero, List.set_cons_succ]
            refine Ht.stepS (i := 9) ⟨some 36, _, _, _, _, _⟩ rfl (by kernel_rfl) (by rfl) (fun K hK => ?_)
            refine wp_append' _ _ _ rfl rfl rfl H34.out.1 ?_
            refine hK _ _ (fun hn => absurd (by decide) hn) (fun hnx => ?_)
            clear hK K hnx
            simp only [Act.put, List.setIfInBounds_toArray, List.set_cons_zero, List.set_cons_succ]
            refine Ht.stepS (i := 10) ⟨some 37, _, _, _, _, _⟩ rfl (by kernel_rfl) (by rfl) (fun K hK => ?_)
            refine wp_append' _ _ _ rfl rfl rfl H34.out.2 ?_
            refine hK _ _ (fun hn => absurd (by decide) hn) (fun hnx => ?_)
            clear hK K hnx
            simp only [Act.put, List.setIfInBounds_toArray, List.set_cons_zero, List.set_cons_succ]
            refine Ht.stepS (i := 11) ⟨some 3, _, _, _, _, _⟩ rfl (by kernel_rfl) (by rfl) (fun K hK => ?_)
            go_simp
            refine hK _ _ (fun hn => absurd (by decide) hn) (fun hnx => ?_)
            clear hK K hnx
            try simp only [Act.put, List.setIfInBounds_toArray, List.set_cons_zero, List.set_cons_succ]
            refine doneS (by kernel_rfl) ?_
            clear r1 r2 p0 p1 hS9 H34
            go_wp2_with fail
            have hb9 : Below X.heap.size X X2 := HE.out.2.2.2.trans ((⟨HE.out.2.2.1.os, HE.out.2.2.1.tape, HE.out.2.2.1.output, HE.out.2.2.1.size, HE.out.2.2.1.block⟩ : Below W2.heap.size W2 X2).mono HE.out.2.2.2.size)
            go_roundw
            case rel => exact ⟨v2, _, j + 1, rfl, by simp, HO.out.2.2.1, (perm_ins o (k, t) i).trans (by rw [take_next HO.out.2.2.2.2.2.1, HO.out.2.2.2.1, HO.out.2.2.2.2.1]; exact HO.out.1.append_right _), HE.out.1, own_base HE.out.2.1 HE.out.2.2.2.size, hb9⟩
            case measure => have := HO.out.2.2.1; simp [RowKit.intOf]; omega
        · have hie : m = i := by omega
          have hic : ((m : Nat) : Int) ≤ ((i : Nat) : Int) := by omega
          have hic3 : m ≤ i := by omega
          have HI := Lib.hid (And.intro hlo (And.intro ho (And.intro oV (And.intro hb hie))))
          clear hlo ho oV hb him hix hie
          go_wp2_with fail
          refine begin' 99 (fun _ => True) hmix trivial (fun _ => ?_)
          refine Ht.takeN (i := 0) ⟨some 13, _, _, _, _, _⟩ (.int .i64 ((i : Nat) : Int)) rfl (Nat.le_of_ble_eq_true (by kernel_rfl)) (by kernel_rfl) (by kernel_rfl) (by kernel_rfl) (by kernel_rfl) trivial (Or.inl ⟨by rfl, by (intro X hX; go_simp)⟩) ?_
          simp only [Act.put, List.setIfInBounds_toArray, List.set_cons_zero, List.set_cons_succ]
          refine Ht.takeN (i := 1) ⟨some 14, _, _, _, _, _⟩ (.slice av m cv) rfl (Nat.le_of_ble_eq_true (by kernel_rfl)) (by kernel_rfl) (by kernel_rfl) (by kernel_rfl) (by kernel_rfl) trivial (Or.inl ⟨by rfl, by (intro X hX; go_simp)⟩) ?_
          simp only [Act.put, List.setIfInBounds_toArray, List.set_cons_zero, List.set_cons_succ]
          refine Ht.takeN (i := 2) ⟨some 15, _, _, _, _, _⟩ (.int .i64 ((m : Nat) : Int)) rfl (Nat.le_of_ble_eq_true (by kernel_rfl)) (by kernel_rfl) (by kernel_rfl) (by kernel_rfl) (by kernel_rfl) trivial (Or.inl ⟨by rfl, by (intro X hX; go_simp)⟩) ?_
          simp only [Act.put, List.setIfInBounds_toArray, List.set_cons_zero, List.set_cons_succ]
          refine Ht.takeN (i := 3) ⟨some 16, _, _, _, _, _⟩ (.bool false) rfl (Nat.le_of_ble_eq_true (by kernel_rfl)) (by kernel_rfl) (by kernel_rfl) (by kernel_rfl) (by kernel_rfl) trivial (Or.inl ⟨by rfl, by (intro X hX; go_simp)⟩) ?_
          simp only [Act.put, List.setIfInBounds_toArray, List.set_cons_zero, List.set_cons_succ]
          refine Ht.takeN (i := 4) ⟨some 17, _, _, _, _, _⟩ (.bool false) rfl (Nat.le_of_ble_eq_true (by kernel_rfl)) (by kernel_rfl) (by kernel_rfl) (by kernel_rfl) (by kernel_rfl) trivial (Or.inl ⟨by rfl, by (intro X hX; go_simp)⟩) ?_
          simp only [Act.put, List.setIfInBounds_toArray, List.set_cons_zero, List.set_cons_succ]
          refine Ht.takeN (i := 5) ⟨some 18, _, _, _, _, _⟩ (undef) rfl (Nat.le_of_ble_eq_true (by kernel_rfl)) (by kernel_rfl) (by kernel_rfl) (by kernel_rfl) (by kernel_rfl) trivial (Or.inr ⟨by rfl, by rfl⟩) ?_
          simp only [Act.put, List.setIfInBounds_toArray, List.set_cons_zero, List.set_cons_succ]
          refine Ht.takeN (i := 6) ⟨some 19, _, _, _, _, _⟩ (undef) rfl (Nat.le_of_ble_eq_true (by kernel_rfl)) (by kernel_rfl) (by kernel_rfl) (by kernel_rfl) (by kernel_rfl) trivial (Or.inr ⟨by rfl, by rfl⟩) ?_
          simp only [Act.put, List.setIfInBounds_toArray, List.set_cons_zero, List.set_cons_succ]
          refine Ht.takeN (i := 7) ⟨some 20, _, _, _, _, _⟩ (undef) rfl (Nat.le_of_ble_eq_true (by kernel_rfl)) (by kernel_rfl) (by kernel_rfl) (by kernel_rfl) (by kernel_rfl) trivial (Or.inr ⟨by rfl, by rfl⟩) ?_
          simp only [Act.put, List.setIfInBounds_toArray, List.set_cons_zero, List.set_cons_succ]
          refine Ht.takeN (i := 8) ⟨some 21, _, _, _, _, _⟩ (undef) rfl (Nat.le_of_ble_eq_true (by kernel_rfl)) (by kernel_rfl) (by kernel_rfl) (by kernel_rfl) (by kernel_rfl) trivial (Or.inr ⟨by rfl, by rfl⟩) ?_
          simp only [Act.put, List.setIfInBounds_toArray, List.set_cons_zero, List.set_cons_succ]
          refine Ht.takeN (i := 9) ⟨some 22, _, _, _, _, _⟩ (undef) rfl (Nat.le_of_ble_eq_true (by kernel_rfl)) (by kernel_rfl) (by kernel_rfl) (by kernel_rfl) (by kernel_rfl) trivial (Or.inr ⟨by rfl, by rfl⟩) ?_
          simp only [Act.put, List.setIfInBounds_toArray, List.set_cons_zero, List.set_cons_succ]
          refine Ht.takeN (i := 10) ⟨some 23, _, _, _, _, _⟩ (undef) rfl (Nat.le_of_ble_eq_true (by kernel_rfl)) (by kernel_rfl) (by kernel_rfl) (by kernel_rfl) (by kernel_rfl) trivial (Or.inr ⟨by rfl, by rfl⟩) ?_
          simp only [Act.put, List.setIfInBounds_toArray, List.set_cons_zero, List.set_cons_succ]
          refine later [11] (fun _ => True) (trivial) (fun hS8 => ?_)
          refine Ht.stepS (i := 11) ⟨some 24, _, _, _, _, _⟩ rfl (by kernel_rfl) (by rfl) (fun K hK => ?_)
          go_simp
          refine hK _ _ (fun hn => absurd (by decide) hn) (fun hnx => ?_)
          clear hK K hnx
          try simp only [Act.put, List.setIfInBounds_toArray, List.set_cons_zero, List.set_cons_succ]
          refine doneS (by kernel_rfl) ?_
          go_wp2_with fail
          obtain ⟨hlo, ho, oV, hb, hie⟩ := HI.out
          obtain ⟨W2, hW2⟩ : ∃ W, W = wr.drew := ⟨_, rfl⟩
          have ho2 : Own W2 X.heap.size (.slice av o.length cv) o := by rw [hW2]; exact own_kept ho fun _ _ => rfl
          have oV2 : W2.heap[bq]? = some (.cells #[.string ⟨k.toArray⟩, .int .i64 t] 42 (0, 0)) := by rw [hW2]; exact oV
          have hb2 : Below X.heap.size X W2 := by rw [hW2]; exact ⟨hb.os, hb.tape, hb.output, hb.size, hb.block⟩
          rw [← hW2]
          have him : i ≤ o.length := by rw [← HM.out]; omega
          have hstop : i < o.length → ltp (el o i) (k, t) = false := fun e => by have := HM.out; omega
          clear hW2 HI q0 q1 hb ho oV hie
          obtain ⟨va, vb, v1, X1, v2, X2, r1, r2, r3, r4, own2, b3⟩ := ins_runs W2.drew (B := X.heap.size) (v := .slice av o.length cv) (o := o) (own_kept ho2 fun _ _ => rfl) him (by have := HO.out.2.2.2.2.2.2.1; omega) (k, t) 29
          rw [← HM.out] at r1 r2
          have p0 : W2.cell? ⟨bq, 0, none⟩ = some (.string ⟨k.toArray⟩) := by rw [cell_of_row _ _ _ _ _ _ oV2]; rfl
          have p1 : W2.cell? ⟨bq, 1, none⟩ = some (.int .i64 t) := by rw [cell_of_row _ _ _ _ _ _ oV2]; rfl
          unfold ek er at r3
          dsimp only at r3
          have HE := Lib.hid (And.intro (srt_ins HO.out.2.1 him hlo hstop) (And.intro own2 (And.intro b3 hb2)))
          have H34 := Lib.hid (And.intro r3 r4)
          clear own2 b3 hb2 hstop him hlo ho2 oV2 r3 r4
          refine begin' 99 (fun _ => True) hmix trivial (fun _ => ?_)
          refine Ht.takeN (i := 0) ⟨some 27, _, _, _, _, _⟩ (.slice av m cv) rfl (Nat.le_of_ble_eq_true (by kernel_rfl)) (by kernel_rfl) (by kernel_rfl) (by kernel_rfl) (by kernel_rfl) trivial (Or.inl ⟨by rfl, by (intro X hX; go_simp)⟩) ?_
          simp only [Act.put, List.setIfInBounds_toArray, List.set_cons_zero, List.set_cons_succ]
          refine Ht.takeN (i := 1) ⟨some 28, _, _, _, _, _⟩ (.int .i64 ((i : Nat) : Int)) rfl (Nat.le_of_ble_eq_true (by kernel_rfl)) (by kernel_rfl) (by kernel_rfl) (by kernel_rfl) (by kernel_rfl) trivial (Or.inl ⟨by rfl, by (intro X hX; go_simp)⟩) ?_
          simp only [Act.put, List.setIfInBounds_toArray, List.set_cons_zero, List.set_cons_succ]
          refine Ht.takeN (i := 2) ⟨some 29, _, _, _, _, _⟩ (.int .i64 ((i : Nat) : Int)) rfl (Nat.le_of_ble_eq_true (by kernel_rfl)) (by kernel_rfl) (by kernel_rfl) (by kernel_rfl) (by kernel_rfl) trivial (Or.inl ⟨by rfl, by (intro X hX; go_simp)⟩) ?_
          simp only [Act.put, List.setIfInBounds_toArray, List.set_cons_zero, List.set_cons_succ]
          refine Ht.takeN (i := 3) ⟨some 30, _, _, _, _, _⟩ (va) rfl (Nat.le_of_ble_eq_true (by kernel_rfl)) (by kernel_rfl) (by kernel_rfl) (by kernel_rfl) (by kernel_rfl) trivial (Or.inl ⟨by rfl, by (intro X hX; go_simp)⟩) ?_
          simp only [Act.put, List.setIfInBounds_toArray, List.set_cons_zero, List.set_cons_succ]
          refine Ht.takeN (i := 6) ⟨some 33, _, _, _, _, _⟩ (.slice av m cv) rfl (Nat.le_of_ble_eq_true (by kernel_rfl)) (by kernel_rfl) (by kernel_rfl) (by kernel_rfl) (by kernel_rfl) trivial (Or.inl ⟨by rfl, by (intro X hX; go_simp)⟩) ?_
          simp only [Act.put, List.setIfInBounds_toArray, List.set_cons_zero, List.set_cons_succ]
          refine Ht.takeN (i := 7) ⟨some 34, _, _, _, _, _⟩ (.int .i64 ((i : Nat) : Int)) rfl (Nat.le_of_ble_eq_true (by kernel_rfl)) (by kernel_rfl) (by kernel_rfl) (by kernel_rfl) (by kernel_rfl) trivial (Or.inl ⟨by rfl, by (intro X hX; go_simp)⟩) ?_
          simp only [Act.put, List.setIfInBounds_toArray, List.set_cons_zero, List.set_cons_succ]
          refine Ht.takeN (i := 8) ⟨some 35, _, _, _, _, _⟩ (vb) rfl (Nat.le_of_ble_eq_true (by kernel_rfl)) (by kernel_rfl) (by kernel_rfl) (by kernel_rfl) (by kernel_rfl) trivial (Or.inl ⟨by rfl, by (intro X hX; go_simp)⟩) ?_
          simp only [Act.put, List.setIfInBounds_toArray, List.set_cons_zero, List.set_cons_succ]
          refine later [5, 9, 10, 11] (fun Z => Z.cell? ⟨bq, 0, none⟩ = some (.string ⟨k.toArray⟩) ∧ Z.cell? ⟨bq, 1, none⟩ = some (.int .i64 t)) (⟨p0, p1⟩) (fun hS9 => ?_)
          refine Ht.takeS 10 (i := 4) ⟨some 31, _, _, _, _, _⟩ (.agg #[.string ⟨k.toArray⟩, .int .i64 t]) rfl (by kernel_rfl) (by kernel_rfl) (by kernel_rfl) (by kernel_rfl) (by kernel_rfl) hS9 (Or.inl ⟨by rfl, by (intro X hX; have := hX.1; have := hX.2; go_simp)⟩) ?_
          simp only [Act.put, List.setIfInBounds_toArray, List.set_cons_zero, List.set_cons_succ]
          refine Ht.stepS (i := 5) ⟨some 32, _, _, _, _, _⟩ rfl (by kernel_rfl) (by rfl) (fun K hK => ?_)
          go_simp
          refine hK _ _ (fun hn => absurd (by decide) hn) (fun hnx => ?_)
          clear hK K hnx
          try simp only [Act.put, List.setIfInBounds_toArray, List.set_cons_zero, List.set_cons_succ]
          refine Ht.stepS (i := 9) ⟨some 36, _, _, _, _, _⟩ rfl (by kernel_rfl) (by rfl) (fun K hK => ?_)
          refine wp_append' _ _ _ rfl rfl rfl H34.out.1 ?_
          refine hK _ _ (fun hn => absurd (by decide) hn) (fun hnx => ?_)
          clear hK K hnx
          simp only [Act.put, List.setIfInBounds_toArray, List.set_cons_zero, List.set_cons_succ]
          refine Ht.stepS (i := 10) ⟨some 37, _, _, _, _, _⟩ rfl (by kernel_rfl) (by rfl) (fun K hK => ?_)
          refine wp_append' _ _ _ rfl rfl rfl H34.out.2 ?_
          refine hK _ _ (fun hn => absurd (by decide) hn) (fun hnx => ?_)
          clear hK K hnx
          simp only [Act.put, List.setIfInBounds_toArray, List.set_cons_zero, List.set_cons_succ]
          refine Ht.stepS (i := 11) ⟨some 3, _, _, _, _, _⟩ rfl (by kernel_rfl) (by rfl) (fun K hK => ?_)
          go_simp
          refine hK _ _ (fun hn => absurd (by decide) hn) (fun hnx => ?_)
          clear hK K hnx
          try simp only [Act.put, List.setIfInBounds_toArray, List.set_cons_zero, List.set_cons_succ]
          refine doneS (by kernel_rfl) ?_
          clear r1 r2 p0 p1 hS9 H34
          go_wp2_with fail
          have hb9 : Below X.heap.size X X2 := HE.out.2.2.2.trans ((⟨HE.out.2.2.1.os, HE.out.2.2.1.tape, HE.out.2.2.1.output, HE.out.2.2.1.size, HE.out.2.2.1.block⟩ : Below W2.heap.size W2 X2).mono HE.out.2.2.2.size)
          go_roundw
          case rel => exact ⟨v2, _, j + 1, rfl, by simp, HO.out.2.2.1, (perm_ins o (k, t) i).trans (by rw [take_next HO.out.2.2.2.2.2.1, HO.out.2.2.2.1, HO.out.2.2.2.2.1]; exact HO.out.1.append_right _), HE.out.1, own_base HE.out.2.1 HE.out.2.2.2.size, hb9⟩
          case measure => have := HO.out.2.2.1; simp [RowKit.intOf]; omega
    · have hje : n = j := by omega
      subst hje
      obtain ⟨ha, hl, hn⟩ := HS.out
      obtain ⟨av, cv, rfl⟩ := own_shape ho
      have HZ := Lib.hid (And.intro (show o.Perm l by rw [hn, List.take_length] at hp; exact hp) (And.intro hs (And.intro ho hb)))
      clear ha hl hn hp hs ho hb
      generalize o.length = m at *
      go_wp2_with fail
      go_ret
      exact ⟨_, o, rfl, HZ.out.1, HZ.out.2.1, HZ.out.2.2.1, HZ.out.2.2.2⟩
end Go.Proofs.Ytcafiehlhdoibaa.Wh
