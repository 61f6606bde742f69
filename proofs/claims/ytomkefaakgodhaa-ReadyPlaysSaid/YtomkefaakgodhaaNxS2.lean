
/- ready's laws: sorted -/
import Derived.Test.YtomkefaakgodhaaNxS
import Derived.Test.YtomkefaakgodhaaNxT
import Derived.Test.YtomkefaakgodhaaHs
namespace Go.Proofs.Ytomkefaakgodhaa.Nx
open Go.RowKit Go.Lib Go.Sort Go.Shelf Hp HpE Ht
set_option linter.unusedVariables false
set_option maxRecDepth 20000
set_option maxHeartbeats 4000000 in
theorem sorted15_any (X : World) {B : Nat} {v : Value} {l : List O} (h : Oo X B v l) (hl : l.length ≤ 1000) :
    Calls Try.prog 13 #[v] X fun e Y => ∃ v', e = .returned v' ∧ Oo Y X.heap.size v' (srt l) ∧ Below X.heap.size X Y := by
  have hmix : Try.prog.follows .mixedOrders = true := by kernel_rfl
  obtain ⟨a1, c1, rfl⟩ := HpE.own_shape h
  obtain ⟨n, hn⟩ : ∃ n, n = l.length := ⟨_, rfl⟩
  have HS := Lib.hid (And.intro h (And.intro hl hn))
  rw [← hn]
  clear h hl hn
  go_enter Try.func13, Try.ntmps13
  go_wp2_with fail
  go_loopw [3, 9] (fun ov cv wr => ∃ (v' : Value) (o : List O) (j : Nat), v' = ov ∧ cv = .int .i64 ((j : Nat) : Int) ∧ j ≤ n ∧ o = srt (l.take j) ∧ Oo wr X.heap.size v' o ∧ Below X.heap.size X wr) (fun _ cv _ => n - (RowKit.intOf cv).toNat)
  case atStart => exact ⟨_, [], 0, rfl, rfl, Nat.zero_le _, rfl, ⟨rfl, .inl ⟨rfl, rfl⟩⟩, Below.refl _ _⟩
  case round =>
    obtain ⟨v', o, j, hv, hcv, hjn, hp, ho, hb⟩ := hrel
    subst hv hcv
    by_cases hjx : j < n
    · obtain ⟨ha, hl, hn⟩ := HS.out
      have hil : j < l.length := by omega
      obtain ⟨g1, e1, k1, t1, u1⟩ : ∃ g, a1 = some ⟨g, 0, none⟩ ∧ X.cell? ⟨g, j * 3, none⟩ = some (ek (el l j).1) ∧ X.cell? ⟨g, j * 3 + 1, none⟩ = some (.int .i64 (((el l j).2.1 : Nat) : Int)) ∧ X.cell? ⟨g, j * 3 + 2, none⟩ = some (er (el l j).2.2) := by
        obtain ⟨g, c, h1, _, _, h2⟩ := oo_at ha hil
        cases h1; exact ⟨g, rfl, h2 j hil⟩
      subst e1
      have k2 := (hb.cell (World.block_lt_of_cell? _ _ k1)).trans k1
      have t2 := (hb.cell (World.block_lt_of_cell? _ _ t1)).trans t1
      have u2 := (hb.cell (World.block_lt_of_cell? _ _ u1)).trans u1
      obtain ⟨k, hk⟩ : ∃ k, k = (el l j).1 := ⟨_, rfl⟩
      obtain ⟨p, hpp⟩ : ∃ p, p = (el l j).2.1 := ⟨_, rfl⟩
      obtain ⟨t, ht⟩ : ∃ t, t = (el l j).2.2 := ⟨_, rfl⟩
      rw [← hk] at k2
      rw [← hpp] at t2
      rw [← ht] at u2
      obtain ⟨bq, hbq⟩ : ∃ b, b = wr.heap.size := ⟨_, rfl⟩
      obtain ⟨V, hV⟩ : ∃ V, V = wr.alloc (.cells #[.string ⟨k.toArray⟩, .int .i64 ((p : Nat) : Int), .int .u64 t] 35) := ⟨_, rfl⟩
      have hbV : Below wr.heap.size wr V := by rw [hV]; exact (Below.refl _ wr).alloc (Nat.le_refl _) _
      have oV : V.heap[bq]? = some (.cells #[.string ⟨k.toArray⟩, .int .i64 ((p : Nat) : Int), .int .u64 t] 35 (0, 0)) := by rw [hV, hbq]; exact (MapKept.heap_alloc wr _).1
      have hoV : Oo V X.heap.size v' o := Nx.own_kept ho fun b hb2 => hbV.block b (Nx.own_cell ho hb2).2.1
      have hol : o.length ≤ 1000 := by rw [hp, srt_len, List.length_take]; omega
      have hjc : ((j : Nat) : Int) < ((n : Nat) : Int) := by omega
      have hj0 : (0 : Int) ≤ ((j : Nat) : Int) := by omega
      have hj4 : ((j : Nat) : Int) ≤ 1000000 := by omega
      have HO := Lib.hid (And.intro hp (And.intro hjx (And.intro (show el l j = (k, p, t) by rw [hk, hpp, ht]) (And.intro hil (And.intro hol hl)))))
      have HV := Lib.hid (And.intro hoV (And.intro oV (hb.trans (hbV.mono hb.size))))
      obtain ⟨av, cv, rfl⟩ := HpE.own_shape ho
      obtain ⟨m, hm⟩ : ∃ m, m = o.length := ⟨_, rfl⟩
      rw [← hm]
      have HM := Lib.hid hm
      unfold ek at k2
      unfold er at u2
      clear ha hl hn k1 t1 u1 hp ho hb hjx hjn hil hk hpp ht hbV oV hoV hol hm
      go_wp2_with fail
      rw [← hV, ← hbq]
      clear hV hbq k2 t2 u2
      go_loopw [6] (fun iv wr => ∃ (i : Nat), iv = .int .i64 ((i : Nat) : Int) ∧ i ≤ m ∧ (∀ q, q < i → ah (el o q) (k, p, t) = true) ∧ Oo wr X.heap.size (.slice av o.length cv) o ∧ wr.heap[bq]? = some (.cells #[.string ⟨k.toArray⟩, .int .i64 ((p : Nat) : Int), .int .u64 t] 35 (0, 0)) ∧ Below X.heap.size X wr) (fun iv _ => m - (RowKit.intOf iv).toNat)
      case atStart => exact ⟨0, rfl, Nat.zero_le _, fun q hq => by omega, HV.out.1, HV.out.2.1, HV.out.2.2⟩
      case round =>
        obtain ⟨i, hiv, him, hlo, ho, oV, hb⟩ := hrel
        subst hiv
        have hi0 : (0 : Int) ≤ ((i : Nat) : Int) := by omega
        have hi4 : ((i : Nat) : Int) ≤ 1000000 := by have h1 := HO.out.2.2.2.2.1; have h2 := HM.out; omega
        obtain ⟨q0, q1, q2, _⟩ := three oV
        by_cases hix : i < m
        · have hio : i < o.length := by rw [← HM.out]; exact hix
          obtain ⟨g, eg, k3, t3, u3⟩ : ∃ g, av = some ⟨g, 0, none⟩ ∧ wr.cell? ⟨g, i * 3, none⟩ = some (ek (el o i).1) ∧ wr.cell? ⟨g, i * 3 + 1, none⟩ = some (.int .i64 (((el o i).2.1 : Nat) : Int)) ∧ wr.cell? ⟨g, i * 3 + 2, none⟩ = some (er (el o i).2.2) := by
            obtain ⟨g, c, h1, _, _, h2⟩ := oo_at ho hio
            cases h1; exact ⟨g, rfl, h2 i hio⟩
          subst eg
          have hF := fun W => ahead_any (el o i) (k, p, t) W
          have hel : el o i = ((el o i).1, (el o i).2.1, (el o i).2.2) := rfl
          obtain ⟨k5, hk5⟩ : ∃ k, k = (el o i).1 := ⟨_, rfl⟩
          obtain ⟨p5, hp5⟩ : ∃ p, p = (el o i).2.1 := ⟨_, rfl⟩
          obtain ⟨t5, ht5⟩ : ∃ t, t = (el o i).2.2 := ⟨_, rfl⟩
          rw [← hk5] at k3 hel
          rw [← hp5] at t3 hel
          rw [← ht5] at u3 hel
          rw [hel] at hF
          have hic : ((i : Nat) : Int) < ((m : Nat) : Int) := by omega
          have HI := Lib.hid (And.intro hlo (And.intro ho (And.intro oV (And.intro hb (And.intro hix hel)))))
          unfold ek at k3
          unfold er at u3
          unfold ov ek er at hF
          dsimp only at hF
          clear hlo ho oV hb hel hk5 hp5 ht5 him hix hio
          generalize hbo : ah (k5, p5, t5) (k, p, t) = bo at hF
          have HBO := Lib.hid hbo
          clear hbo
          go_wp2_with fail
          refine begin' 99 (fun _ => True) hmix trivial (fun _ => ?_)
          refine later [10, 11] (fun Z => Z.cell? ⟨g, i * 3, none⟩ = some (.string ⟨k5.toArray⟩) ∧ Z.cell? ⟨g, i * 3 + 1, none⟩ = some (.int .i64 ((p5 : Nat) : Int)) ∧ Z.cell? ⟨g, i * 3 + 2, none⟩ = some (.int .u64 t5) ∧ Z.cell? ⟨bq, 0, none⟩ = some (.string ⟨k.toArray⟩) ∧ Z.cell? ⟨bq, 1, none⟩ = some (.int .i64 ((p : Nat) : Int)) ∧ Z.cell? ⟨bq, 2, none⟩ = some (.int .u64 t)) (⟨k3, t3, u3, q0, q1, q2⟩) (fun hS0 => ?_)
          refine Ht.takeS 10 (i := 0) ⟨some 13, _, _, _, _, _⟩ (.int .i64 ((i : Nat) : Int)) rfl (by kernel_rfl) (by kernel_rfl) (by kernel_rfl) (by kernel_rfl) (by kernel_rfl) hS0 (Or.inl ⟨by rfl, by (intro X hX; go_simp)⟩) ?_
          simp only [Act.put, List.setIfInBounds_toArray, List.set_cons_zero, List.set_cons_succ]
          refine Ht.takeS 10 (i := 1) ⟨some 14, _, _, _, _, _⟩ (.slice (some ⟨g, 0, none⟩) m cv) rfl (by kernel_rfl) (by kernel_rfl) (by kernel_rfl) (by kernel_rfl) (by kernel_rfl) hS0 (Or.inl ⟨by rfl, by (intro X hX; go_simp)⟩) ?_
          simp only [Act.put, List.setIfInBounds_toArray, List.set_cons_zero, List.set_cons_succ]
          refine Ht.takeS 10 (i := 2) ⟨some 15, _, _, _, _, _⟩ (.int .i64 ((m : Nat) : Int)) rfl (by kernel_rfl) (by kernel_rfl) (by kernel_rfl) (by kernel_rfl) (by kernel_rfl) hS0 (Or.inl ⟨by rfl, by (intro X hX; go_simp)⟩) ?_
          simp only [Act.put, List.setIfInBounds_toArray, List.set_cons_zero, List.set_cons_succ]
          refine Ht.takeS 10 (i := 3) ⟨some 16, _, _, _, _, _⟩ (.bool true) rfl (by kernel_rfl) (by kernel_rfl) (by kernel_rfl) (by kernel_rfl) (by kernel_rfl) hS0 (Or.inl ⟨by rfl, by (intro X hX; go_simp)⟩) ?_
          simp only [Act.put, List.setIfInBounds_toArray, List.set_cons_zero, List.set_cons_succ]
          refine Ht.takeS 10 (i := 4) ⟨some 17, _, _, _, _, _⟩ (.bool true) rfl (by kernel_rfl) (by kernel_rfl) (by kernel_rfl) (by kernel_rfl) (by kernel_rfl) hS0 (Or.inl ⟨by rfl, by (intro X hX; go_simp)⟩) ?_
          simp only [Act.put, List.setIfInBounds_toArray, List.set_cons_zero, List.set_cons_succ]
          refine Ht.takeS 10 (i := 5) ⟨some 18, _, _, _, _, _⟩ (.slice (some ⟨g, 0, none⟩) m cv) rfl (by kernel_rfl) (by kernel_rfl) (by kernel_rfl) (by kernel_rfl) (by kernel_rfl) hS0 (Or.inl ⟨by rfl, by (intro X hX; go_simp)⟩) ?_
          simp only [Act.put, List.setIfInBounds_toArray, List.set_cons_zero, List.set_cons_succ]
          refine Ht.takeS 10 (i := 6) ⟨some 19, _, _, _, _, _⟩ (.int .i64 ((i : Nat) : Int)) rfl (by kernel_rfl) (by kernel_rfl) (by kernel_rfl) (by kernel_rfl) (by kernel_rfl) hS0 (Or.inl ⟨by rfl, by (intro X hX; go_simp)⟩) ?_
          simp only [Act.put, List.setIfInBounds_toArray, List.set_cons_zero, List.set_cons_succ]
          refine Ht.takeS 10 (i := 7) ⟨some 20, _, _, _, _, _⟩ (.pointer (some ⟨g, i * 3, none⟩)) rfl (by kernel_rfl) (by kernel_rfl) (by kernel_rfl) (by kernel_rfl) (by kernel_rfl) hS0 (Or.inl ⟨by rfl, by (intro X hX; go_simp)⟩) ?_
          simp only [Act.put, List.setIfInBounds_toArray, List.set_cons_zero, List.set_cons_succ]
          refine Ht.takeS 10 (i := 8) ⟨some 21, _, _, _, _, _⟩ (.agg #[.string ⟨k5.toArray⟩, .int .i64 ((p5 : Nat) : Int), .int .u64 t5]) rfl (by kernel_rfl) (by kernel_rfl) (by kernel_rfl) (by kernel_rfl) (by kernel_rfl) hS0 (Or.inl ⟨by rfl, by (intro X hX; have := hX.1; have := hX.2.1; have := hX.2.2.1; go_simp)⟩) ?_
          simp only [Act.put, List.setIfInBounds_toArray, List.set_cons_zero, List.set_cons_succ]
          refine Ht.takeS 10 (i := 9) ⟨some 22, _, _, _, _, _⟩ (.agg #[.string ⟨k.toArray⟩, .int .i64 ((p : Nat) : Int), .int .u64 t]) rfl (by kernel_rfl) (by kernel_rfl) (by kernel_rfl) (by kernel_rfl) (by kernel_rfl) hS0 (Or.inl ⟨by rfl, by (intro X hX; have := hX.2.2.2.1; have := hX.2.2.2.2.1; have := hX.2.2.2.2.2; go_simp)⟩) ?_
          simp only [Act.put, List.setIfInBounds_toArray, List.set_cons_zero, List.set_cons_succ]
          refine Ht.stepS (i := 10) ⟨some 23, _, _, _, _, _⟩ rfl (by kernel_rfl) (by rfl) (fun K hK => ?_)
          refine Ht.enter 20 #[.agg #[.string ⟨k5.toArray⟩, .int .i64 ((p5 : Nat) : Int), .int .u64 t5], .agg #[.string ⟨k.toArray⟩, .int .i64 ((p : Nat) : Int), .int .u64 t]] (by have hen := fun args w => enters_of (P := Try.prog) Try.func20 (by kernel_rfl) rfl args w; go_simp) (hF _) ?_
          rintro e W2 ⟨rfl, b2⟩
          have b2' : Below wr.heap.size wr W2 := ⟨b2.os, b2.tape, b2.output, b2.size, b2.block⟩
          have H2 := Lib.hid b2'
          clear b2 b2'
          refine ⟨_, rfl, hK _ _ (fun hn => absurd (by decide) hn) (fun hnx => ?_)⟩
          clear hK K hnx
          simp only [Act.put, List.setIfInBounds_toArray, List.set_cons_zero, List.set_cons_succ]
          refine Ht.stepS (i := 11) ⟨some 24, _, _, _, _, _⟩ rfl (by kernel_rfl) (by rfl) (fun K hK => ?_)
          go_simp
          refine hK _ _ (fun hn => absurd (by decide) hn) (fun hnx => ?_)
          clear hK K hnx
          try simp only [Act.put, List.setIfInBounds_toArray, List.set_cons_zero, List.set_cons_succ]
          refine doneS (by kernel_rfl) ?_
          cases bo with
          | true =>
            go_wp2_with fail
            go_roundw
            case rel =>
              obtain ⟨hlo, ho, oV, hb, hix, hel⟩ := HI.out
              exact ⟨i + 1, by simp, hix, fun q hq => by
                by_cases e : q = i
                · subst e; rw [hel]; exact HBO.out
                · exact hlo q (by omega), Nx.own_kept ho fun b hb2 => H2.out.block b (Nx.own_cell ho hb2).2.1, (H2.out.block bq (Array.getElem?_eq_some_iff.1 oV).1).trans oV, hb.trans (H2.out.mono hb.size)⟩
            case measure => have := HI.out.2.2.2.2.1; simp [RowKit.intOf]; omega
          | false =>
            go_wp2_with fail
            obtain ⟨hlo, ho, oV, hb, hix, hel⟩ := HI.out
            have ho2 : Oo W2 X.heap.size (.slice (some ⟨g, 0, none⟩) o.length cv) o := Nx.own_kept ho fun b hb2 => H2.out.block b (Nx.own_cell ho hb2).2.1
            have oV2 := (H2.out.block bq (Array.getElem?_eq_some_iff.1 oV).1).trans oV
            have hb2 := hb.trans (H2.out.mono hb.size)
            have hstop : i < o.length → ah (el o i) (k, p, t) = false := fun _ => by rw [hel]; exact HBO.out
            have him : i ≤ o.length := by rw [← HM.out]; omega
            clear HI H2 hF q0 q1 q2 k3 t3 u3 hS0 hb ho oV
            obtain ⟨va, vb, v1, X1, v2, X2, r1, r2, r3, r4, own2, b3⟩ := ins_runs W2.drew (B := X.heap.size) (v := .slice (some ⟨g, 0, none⟩) o.length cv) (o := o) (Nx.own_kept ho2 fun _ _ => rfl) him (by have := HO.out.2.2.2.2.1; omega) (k, p, t) 26
            rw [← HM.out] at r1 r2
            obtain ⟨p0, p1, p2, _⟩ := three oV2
            unfold ek er at r3
            dsimp only at r3
            have HE := Lib.hid (And.intro (ins_at him hlo hstop) (And.intro own2 (And.intro b3 hb2)))
            have H34 := Lib.hid (And.intro r3 r4)
            clear own2 b3 hb2 hstop him hlo ho2 oV2 r3 r4
            refine begin' 99 (fun _ => True) hmix trivial (fun _ => ?_)
            refine Ht.takeN (i := 0) ⟨some 27, _, _, _, _, _⟩ (.slice (some ⟨g, 0, none⟩) m cv) rfl (Nat.le_of_ble_eq_true (by kernel_rfl)) (by kernel_rfl) (by kernel_rfl) (by kernel_rfl) (by kernel_rfl) trivial (Or.inl ⟨by rfl, by (intro X hX; go_simp)⟩) ?_
            simp only [Act.put, List.setIfInBounds_toArray, List.set_cons_zero, List.set_cons_succ]
            refine Ht.takeN (i := 1) ⟨some 28, _, _, _, _, _⟩ (.int .i64 ((i : Nat) : Int)) rfl (Nat.le_of_ble_eq_true (by kernel_rfl)) (by kernel_rfl) (by kernel_rfl) (by kernel_rfl) (by kernel_rfl) trivial (Or.inl ⟨by rfl, by (intro X hX; go_simp)⟩) ?_
            simp only [Act.put, List.setIfInBounds_toArray, List.set_cons_zero, List.set_cons_succ]
            refine Ht.takeN (i := 2) ⟨some 29, _, _, _, _, _⟩ (.int .i64 ((i : Nat) : Int)) rfl (Nat.le_of_ble_eq_true (by kernel_rfl)) (by kernel_rfl) (by kernel_rfl) (by kernel_rfl) (by kernel_rfl) trivial (Or.inl ⟨by rfl, by (intro X hX; go_simp)⟩) ?_
            simp only [Act.put, List.setIfInBounds_toArray, List.set_cons_zero, List.set_cons_succ]
            refine Ht.takeN (i := 3) ⟨some 30, _, _, _, _, _⟩ (va) rfl (Nat.le_of_ble_eq_true (by kernel_rfl)) (by kernel_rfl) (by kernel_rfl) (by kernel_rfl) (by kernel_rfl) trivial (Or.inl ⟨by rfl, by (intro X hX; go_simp)⟩) ?_
            simp only [Act.put, List.setIfInBounds_toArray, List.set_cons_zero, List.set_cons_succ]
            refine Ht.takeN (i := 6) ⟨some 33, _, _, _, _, _⟩ (.slice (some ⟨g, 0, none⟩) m cv) rfl (Nat.le_of_ble_eq_true (by kernel_rfl)) (by kernel_rfl) (by kernel_rfl) (by kernel_rfl) (by kernel_rfl) trivial (Or.inl ⟨by rfl, by (intro X hX; go_simp)⟩) ?_
            simp only [Act.put, List.setIfInBounds_toArray, List.set_cons_zero, List.set_cons_succ]
            refine Ht.takeN (i := 7) ⟨some 34, _, _, _, _, _⟩ (.int .i64 ((i : Nat) : Int)) rfl (Nat.le_of_ble_eq_true (by kernel_rfl)) (by kernel_rfl) (by kernel_rfl) (by kernel_rfl) (by kernel_rfl) trivial (Or.inl ⟨by rfl, by (intro X hX; go_simp)⟩) ?_
            simp only [Act.put, List.setIfInBounds_toArray, List.set_cons_zero, List.set_cons_succ]
            refine Ht.takeN (i := 8) ⟨some 35, _, _, _, _, _⟩ (vb) rfl (Nat.le_of_ble_eq_true (by kernel_rfl)) (by kernel_rfl) (by kernel_rfl) (by kernel_rfl) (by kernel_rfl) trivial (Or.inl ⟨by rfl, by (intro X hX; go_simp)⟩) ?_
            simp only [Act.put, List.setIfInBounds_toArray, List.set_cons_zero, List.set_cons_succ]
            refine later [5, 9, 10, 11] (fun Z => Z.cell? ⟨bq, 0, none⟩ = some (.string ⟨k.toArray⟩) ∧ Z.cell? ⟨bq, 1, none⟩ = some (.int .i64 ((p : Nat) : Int)) ∧ Z.cell? ⟨bq, 2, none⟩ = some (.int .u64 t)) (⟨p0, p1, p2⟩) (fun hS9 => ?_)
            refine Ht.takeS 10 (i := 4) ⟨some 31, _, _, _, _, _⟩ (.agg #[.string ⟨k.toArray⟩, .int .i64 ((p : Nat) : Int), .int .u64 t]) rfl (by kernel_rfl) (by kernel_rfl) (by kernel_rfl) (by kernel_rfl) (by kernel_rfl) hS9 (Or.inl ⟨by rfl, by (intro X hX; have := hX.1; have := hX.2.1; have := hX.2.2; go_simp)⟩) ?_
            simp only [Act.put, List.setIfInBounds_toArray, List.set_cons_zero, List.set_cons_succ]
            refine Ht.stepS (i := 5) ⟨some 32, _, _, _, _, _⟩ rfl (by kernel_rfl) (by rfl) (fun K hK => ?_)
            go_simp
            refine hK _ _ (fun hn => absurd (by decide) hn) (fun hnx => ?_)
            clear hK K hnx
            try simp only [Act.put, List.setIfInBounds_toArray, List.set_cons_zero, List.set_cons_succ]
            refine Ht.stepS (i := 9) ⟨some 36, _, _, _, _, _⟩ rfl (by kernel_rfl) (by rfl) (fun K hK => ?_)
            refine wp_append' _ _ _ rfl rfl rfl H34.out.1 ?_
            refine hK _ _ (fun hn => absurd (by decide) hn) (fun hnx => ?_)
            clear hK K hnx
            simp only [Act.put, List.setIfInBounds_toArray, List.set_cons_zero, List.set_cons_succ]
            refine Ht.stepS (i := 10) ⟨some 37, _, _, _, _, _⟩ rfl (by kernel_rfl) (by rfl) (fun K hK => ?_)
            refine wp_append' _ _ _ rfl rfl rfl H34.out.2 ?_
            refine hK _ _ (fun hn => absurd (by decide) hn) (fun hnx => ?_)
            clear hK K hnx
            simp only [Act.put, List.setIfInBounds_toArray, List.set_cons_zero, List.set_cons_succ]
            refine Ht.stepS (i := 11) ⟨some 3, _, _, _, _, _⟩ rfl (by kernel_rfl) (by rfl) (fun K hK => ?_)
            go_simp
            refine hK _ _ (fun hn => absurd (by decide) hn) (fun hnx => ?_)
            clear hK K hnx
            try simp only [Act.put, List.setIfInBounds_toArray, List.set_cons_zero, List.set_cons_succ]
            refine doneS (by kernel_rfl) ?_
            clear r1 r2 p0 p1 p2 hS9 H34
            go_wp2_with fail
            have hb9 : Below X.heap.size X X2 := HE.out.2.2.2.trans ((⟨HE.out.2.2.1.os, HE.out.2.2.1.tape, HE.out.2.2.1.output, HE.out.2.2.1.size, HE.out.2.2.1.block⟩ : Below W2.heap.size W2 X2).mono HE.out.2.2.2.size)
            go_roundw
            case rel => exact ⟨v2, _, j + 1, rfl, by simp, HO.out.2.1, by rw [srt_take HO.out.2.2.2.1, HO.out.2.2.1, ← HO.out.1]; exact HE.out.1.symm, HpE.own_base HE.out.2.1 HE.out.2.2.2.size, hb9⟩
            case measure => have := HO.out.2.1; simp [RowKit.intOf]; omega
        · have hie : m = i := by omega
          have hic : ((m : Nat) : Int) ≤ ((i : Nat) : Int) := by omega
          have hic3 : m ≤ i := by omega
          have HI := Lib.hid (And.intro hlo (And.intro ho (And.intro oV (And.intro hb hie))))
          clear hlo ho oV hb him hix hie
          go_wp2_with fail
          refine begin' 99 (fun _ => True) hmix trivial (fun _ => ?_)
          refine Ht.takeN (i := 0) ⟨some 13, _, _, _, _, _⟩ (.int .i64 ((i : Nat) : Int)) rfl (Nat.le_of_ble_eq_true (by kernel_rfl)) (by kernel_rfl) (by kernel_rfl) (by kernel_rfl) (by kernel_rfl) trivial (Or.inl ⟨by rfl, by (intro X hX; go_simp)⟩) ?_
          simp only [Act.put, List.setIfInBounds_toArray, List.set_cons_zero, List.set_cons_succ]
          refine Ht.takeN (i := 1) ⟨some 14, _, _, _, _, _⟩ (.slice av m cv) rfl (Nat.le_of_ble_eq_true (by kernel_rfl)) (by kernel_rfl) (by kernel_rfl) (by kernel_rfl) (by kernel_rfl) trivial (Or.inl ⟨by rfl, by (intro X hX; go_simp)⟩) ?_
          simp only [Act.put, List.setIfInBounds_toArray, List.set_cons_zero, List.set_cons_succ]
          refine Ht.takeN (i := 2) ⟨some 15, _, _, _, _, _⟩ (.int .i64 ((m : Nat) : Int)) rfl (Nat.le_of_ble_eq_true (by kernel_rfl)) (by kernel_rfl) (by kernel_rfl) (by kernel_rfl) (by kernel_rfl) trivial (Or.inl ⟨by rfl, by (intro X hX; go_simp)⟩) ?_
          simp only [Act.put, List.setIfInBounds_toArray, List.set_cons_zero, List.set_cons_succ]
          refine Ht.takeN (i := 3) ⟨some 16, _, _, _, _, _⟩ (.bool false) rfl (Nat.le_of_ble_eq_true (by kernel_rfl)) (by kernel_rfl) (by kernel_rfl) (by kernel_rfl) (by kernel_rfl) trivial (Or.inl ⟨by rfl, by (intro X hX; go_simp)⟩) ?_
          simp only [Act.put, List.setIfInBounds_toArray, List.set_cons_zero, List.set_cons_succ]
          refine Ht.takeN (i := 4) ⟨some 17, _, _, _, _, _⟩ (.bool false) rfl (Nat.le_of_ble_eq_true (by kernel_rfl)) (by kernel_rfl) (by kernel_rfl) (by kernel_rfl) (by kernel_rfl) trivial (Or.inl ⟨by rfl, by (intro X hX; go_simp)⟩) ?_
          simp only [Act.put, List.setIfInBounds_toArray, List.set_cons_zero, List.set_cons_succ]
          refine Ht.takeN (i := 5) ⟨some 18, _, _, _, _, _⟩ (undef) rfl (Nat.le_of_ble_eq_true (by kernel_rfl)) (by kernel_rfl) (by kernel_rfl) (by kernel_rfl) (by kernel_rfl) trivial (Or.inr ⟨by rfl, by rfl⟩) ?_
          simp only [Act.put, List.setIfInBounds_toArray, List.set_cons_zero, List.set_cons_succ]
          refine Ht.takeN (i := 6) ⟨some 19, _, _, _, _, _⟩ (undef) rfl (Nat.le_of_ble_eq_true (by kernel_rfl)) (by kernel_rfl) (by kernel_rfl) (by kernel_rfl) (by kernel_rfl) trivial (Or.inr ⟨by rfl, by rfl⟩) ?_
          simp only [Act.put, List.setIfInBounds_toArray, List.set_cons_zero, List.set_cons_succ]
          refine Ht.takeN (i := 7) ⟨some 20, _, _, _, _, _⟩ (undef) rfl (Nat.le_of_ble_eq_true (by kernel_rfl)) (by kernel_rfl) (by kernel_rfl) (by kernel_rfl) (by kernel_rfl) trivial (Or.inr ⟨by rfl, by rfl⟩) ?_
          simp only [Act.put, List.setIfInBounds_toArray, List.set_cons_zero, List.set_cons_succ]
          refine Ht.takeN (i := 8) ⟨some 21, _, _, _, _, _⟩ (undef) rfl (Nat.le_of_ble_eq_true (by kernel_rfl)) (by kernel_rfl) (by kernel_rfl) (by kernel_rfl) (by kernel_rfl) trivial (Or.inr ⟨by rfl, by rfl⟩) ?_
          simp only [Act.put, List.setIfInBounds_toArray, List.set_cons_zero, List.set_cons_succ]
          refine Ht.takeN (i := 9) ⟨some 22, _, _, _, _, _⟩ (undef) rfl (Nat.le_of_ble_eq_true (by kernel_rfl)) (by kernel_rfl) (by kernel_rfl) (by kernel_rfl) (by kernel_rfl) trivial (Or.inr ⟨by rfl, by rfl⟩) ?_
          simp only [Act.put, List.setIfInBounds_toArray, List.set_cons_zero, List.set_cons_succ]
          refine Ht.takeN (i := 10) ⟨some 23, _, _, _, _, _⟩ (undef) rfl (Nat.le_of_ble_eq_true (by kernel_rfl)) (by kernel_rfl) (by kernel_rfl) (by kernel_rfl) (by kernel_rfl) trivial (Or.inr ⟨by rfl, by rfl⟩) ?_
          simp only [Act.put, List.setIfInBounds_toArray, List.set_cons_zero, List.set_cons_succ]
          refine later [11] (fun _ => True) (trivial) (fun hS8 => ?_)
          refine Ht.stepS (i := 11) ⟨some 24, _, _, _, _, _⟩ rfl (by kernel_rfl) (by rfl) (fun K hK => ?_)
          go_simp
          refine hK _ _ (fun hn => absurd (by decide) hn) (fun hnx => ?_)
          clear hK K hnx
          try simp only [Act.put, List.setIfInBounds_toArray, List.set_cons_zero, List.set_cons_succ]
          refine doneS (by kernel_rfl) ?_
          go_wp2_with fail
          obtain ⟨hlo, ho, oV, hb, hie⟩ := HI.out
          obtain ⟨W2, hW2⟩ : ∃ W, W = wr.drew := ⟨_, rfl⟩
          have ho2 : Oo W2 X.heap.size (.slice av o.length cv) o := by rw [hW2]; exact Nx.own_kept ho fun _ _ => rfl
          have oV2 : W2.heap[bq]? = some (.cells #[.string ⟨k.toArray⟩, .int .i64 ((p : Nat) : Int), .int .u64 t] 35 (0, 0)) := by rw [hW2]; exact oV
          have hb2 : Below X.heap.size X W2 := by rw [hW2]; exact ⟨hb.os, hb.tape, hb.output, hb.size, hb.block⟩
          rw [← hW2]
          have him : i ≤ o.length := by rw [← HM.out]; omega
          have hstop : i < o.length → ah (el o i) (k, p, t) = false := fun e => by have := HM.out; omega
          clear hW2 HI q0 q1 q2 hb ho oV hie
          obtain ⟨va, vb, v1, X1, v2, X2, r1, r2, r3, r4, own2, b3⟩ := ins_runs W2.drew (B := X.heap.size) (v := .slice av o.length cv) (o := o) (Nx.own_kept ho2 fun _ _ => rfl) him (by have := HO.out.2.2.2.2.1; omega) (k, p, t) 26
          rw [← HM.out] at r1 r2
          obtain ⟨p0, p1, p2, _⟩ := three oV2
          unfold ek er at r3
          dsimp only at r3
          have HE := Lib.hid (And.intro (ins_at him hlo hstop) (And.intro own2 (And.intro b3 hb2)))
          have H34 := Lib.hid (And.intro r3 r4)
          clear own2 b3 hb2 hstop him hlo ho2 oV2 r3 r4
          refine begin' 99 (fun _ => True) hmix trivial (fun _ => ?_)
          refine Ht.takeN (i := 0) ⟨some 27, _, _, _, _, _⟩ (.slice av m cv) rfl (Nat.le_of_ble_eq_true (by kernel_rfl)) (by kernel_rfl) (by kernel_rfl) (by kernel_rfl) (by kernel_rfl) trivial (Or.inl ⟨by rfl, by (intro X hX; go_simp)⟩) ?_
          simp only [Act.put, List.setIfInBounds_toArray, List.set_cons_zero, List.set_cons_succ]
          refine Ht.takeN (i := 1) ⟨some 28, _, _, _, _, _⟩ (.int .i64 ((i : Nat) : Int)) rfl (Nat.le_of_ble_eq_true (by kernel_rfl)) (by kernel_rfl) (by kernel_rfl) (by kernel_rfl) (by kernel_rfl) trivial (Or.inl ⟨by rfl, by (intro X hX; go_simp)⟩) ?_
          simp only [Act.put, List.setIfInBounds_toArray, List.set_cons_zero, List.set_cons_succ]
          refine Ht.takeN (i := 2) ⟨some 29, _, _, _, _, _⟩ (.int .i64 ((i : Nat) : Int)) rfl (Nat.le_of_ble_eq_true (by kernel_rfl)) (by kernel_rfl) (by kernel_rfl) (by kernel_rfl) (by kernel_rfl) trivial (Or.inl ⟨by rfl, by (intro X hX; go_simp)⟩) ?_
          simp only [Act.put, List.setIfInBounds_toArray, List.set_cons_zero, List.set_cons_succ]
          refine Ht.takeN (i := 3) ⟨some 30, _, _, _, _, _⟩ (va) rfl (Nat.le_of_ble_eq_true (by kernel_rfl)) (by kernel_rfl) (by kernel_rfl) (by kernel_rfl) (by kernel_rfl) trivial (Or.inl ⟨by rfl, by (intro X hX; go_simp)⟩) ?_
          simp only [Act.put, List.setIfInBounds_toArray, List.set_cons_zero, List.set_cons_succ]
          refine Ht.takeN (i := 6) ⟨some 33, _, _, _, _, _⟩ (.slice av m cv) rfl (Nat.le_of_ble_eq_true (by kernel_rfl)) (by kernel_rfl) (by kernel_rfl) (by kernel_rfl) (by kernel_rfl) trivial (Or.inl ⟨by rfl, by (intro X hX; go_simp)⟩) ?_
          simp only [Act.put, List.setIfInBounds_toArray, List.set_cons_zero, List.set_cons_succ]
          refine Ht.takeN (i := 7) ⟨some 34, _, _, _, _, _⟩ (.int .i64 ((i : Nat) : Int)) rfl (Nat.le_of_ble_eq_true (by kernel_rfl)) (by kernel_rfl) (by kernel_rfl) (by kernel_rfl) (by kernel_rfl) trivial (Or.inl ⟨by rfl, by (intro X hX; go_simp)⟩) ?_
          simp only [Act.put, List.setIfInBounds_toArray, List.set_cons_zero, List.set_cons_succ]
          refine Ht.takeN (i := 8) ⟨some 35, _, _, _, _, _⟩ (vb) rfl (Nat.le_of_ble_eq_true (by kernel_rfl)) (by kernel_rfl) (by kernel_rfl) (by kernel_rfl) (by kernel_rfl) trivial (Or.inl ⟨by rfl, by (intro X hX; go_simp)⟩) ?_
          simp only [Act.put, List.setIfInBounds_toArray, List.set_cons_zero, List.set_cons_succ]
          refine later [5, 9, 10, 11] (fun Z => Z.cell? ⟨bq, 0, none⟩ = some (.string ⟨k.toArray⟩) ∧ Z.cell? ⟨bq, 1, none⟩ = some (.int .i64 ((p : Nat) : Int)) ∧ Z.cell? ⟨bq, 2, none⟩ = some (.int .u64 t)) (⟨p0, p1, p2⟩) (fun hS9 => ?_)
          refine Ht.takeS 10 (i := 4) ⟨some 31, _, _, _, _, _⟩ (.agg #[.string ⟨k.toArray⟩, .int .i64 ((p : Nat) : Int), .int .u64 t]) rfl (by kernel_rfl) (by kernel_rfl) (by kernel_rfl) (by kernel_rfl) (by kernel_rfl) hS9 (Or.inl ⟨by rfl, by (intro X hX; have := hX.1; have := hX.2.1; have := hX.2.2; go_simp)⟩) ?_
          simp only [Act.put, List.setIfInBounds_toArray, List.set_cons_zero, List.set_cons_succ]
          refine Ht.stepS (i := 5) ⟨some 32, _, _, _, _, _⟩ rfl (by kernel_rfl) (by rfl) (fun K hK => ?_)
          go_simp
          refine hK _ _ (fun hn => absurd (by decide) hn) (fun hnx => ?_)
          clear hK K hnx
          try simp only [Act.put, List.setIfInBounds_toArray, List.set_cons_zero, List.set_cons_succ]
          refine Ht.stepS (i := 9) ⟨some 36, _, _, _, _, _⟩ rfl (by kernel_rfl) (by rfl) (fun K hK => ?_)
          refine wp_append' _ _ _ rfl rfl rfl H34.out.1 ?_
          refine hK _ _ (fun hn => absurd (by decide) hn) (fun hnx => ?_)
          clear hK K hnx
          simp only [Act.put, List.setIfInBounds_toArray, List.set_cons_zero, List.set_cons_succ]
          refine Ht.stepS (i := 10) ⟨some 37, _, _, _, _, _⟩ rfl (by kernel_rfl) (by rfl) (fun K hK => ?_)
          refine wp_append' _ _ _ rfl rfl rfl H34.out.2 ?_
          refine hK _ _ (fun hn => absurd (by decide) hn) (fun hnx => ?_)
          clear hK K hnx
          simp only [Act.put, List.setIfInBounds_toArray, List.set_cons_zero, List.set_cons_succ]
          refine Ht.stepS (i := 11) ⟨some 3, _, _, _, _, _⟩ rfl (by kernel_rfl) (by rfl) (fun K hK => ?_)
          go_simp
          refine hK _ _ (fun hn => absurd (by decide) hn) (fun hnx => ?_)
          clear hK K hnx
          try simp only [Act.put, List.setIfInBounds_toArray, List.set_cons_zero, List.set_cons_succ]
          refine doneS (by kernel_rfl) ?_
          clear r1 r2 p0 p1 p2 hS9 H34
          go_wp2_with fail
          have hb9 : Below X.heap.size X X2 := HE.out.2.2.2.trans ((⟨HE.out.2.2.1.os, HE.out.2.2.1.tape, HE.out.2.2.1.output, HE.out.2.2.1.size, HE.out.2.2.1.block⟩ : Below W2.heap.size W2 X2).mono HE.out.2.2.2.size)
          go_roundw
          case rel => exact ⟨v2, _, j + 1, rfl, by simp, HO.out.2.1, by rw [srt_take HO.out.2.2.2.1, HO.out.2.2.1, ← HO.out.1]; exact HE.out.1.symm, HpE.own_base HE.out.2.1 HE.out.2.2.2.size, hb9⟩
          case measure => have := HO.out.2.1; simp [RowKit.intOf]; omega
    · have hje : n = j := by omega
      subst hje
      obtain ⟨ha, hl, hn⟩ := HS.out
      obtain ⟨av, cv, rfl⟩ := HpE.own_shape ho
      have HZ := Lib.hid (And.intro (show o = srt l by rw [hp, hn, List.take_length]) (And.intro ho hb))
      clear ha hl hn hp ho hb
      obtain ⟨m, hm⟩ : ∃ m, m = o.length := ⟨_, rfl⟩
      rw [← hm] at HZ ⊢
      have HM := Lib.hid hm
      clear hm
      go_wp2_with fail
      go_ret
      refine ⟨_, rfl, ?_, HZ.out.2.2⟩
      have := HZ.out.2.1
      rw [HM.out] at this ⊢
      rw [← HZ.out.1]; exact this
end Go.Proofs.Ytomkefaakgodhaa.Nx
