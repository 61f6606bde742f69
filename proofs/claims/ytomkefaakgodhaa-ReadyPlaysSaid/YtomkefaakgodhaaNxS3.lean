
/- ready's laws: cut, at -/
import Derived.Test.YtomkefaakgodhaaNxS
import Derived.Test.YtomkefaakgodhaaNxT
import Derived.Test.YtomkefaakgodhaaHs
namespace Go.Proofs.Ytomkefaakgodhaa.Nx
open Go.RowKit Go.Lib Go.Sort Go.Shelf Hp HpE Ht
set_option linter.unusedVariables false
set_option maxRecDepth 20000
theorem erase_del {l : List O} (hn : (l.map (·.1)).Nodup) {j : Nat} (hj : j < l.length) {k : K} (e : (el l j).1 = k) : l.eraseIdx j = del k l := by
  induction l generalizing j with
  | nil => simp at hj
  | cons y l ih =>
    rw [List.map_cons, List.nodup_cons] at hn
    cases j with
    | zero =>
      have e' : y.1 = k := e
      have h1 : del k (y :: l) = del k l := by unfold del; rw [List.filter_cons_of_neg (by simp [e'])]
      rw [h1, del_not (fun h => hn.1 (e' ▸ h))]
      rfl
    | succ j =>
      have hj' : j < l.length := by simpa using hj
      have e' : (el l j).1 = k := e
      have hne : y.1 ≠ k := fun e2 => hn.1 (by rw [e2, ← e']; exact List.mem_map.2 ⟨el l j, el_mem hj', rfl⟩)
      have h1 : del k (y :: l) = y :: del k l := by unfold del; rw [List.filter_cons_of_pos (by simp [hne])]
      rw [h1, List.eraseIdx_cons_succ, ih hn.2 hj' e']
theorem slice_hi (W : World) (g n c i : Nat) (h : i ≤ c) : (Instr.slice 26 (.slice (some ⟨g, 0, none⟩) n c) none (some (.int .i64 ((i : Nat) : Int))) none).run Try.prog W = .ok (.slice (some ⟨g, 0, none⟩) i c) W := by
  have h1 : ((i : Nat) : Int) ≤ ((c : Nat) : Int) := by omega
  clear h
  go_simp
theorem el_dropO (l : List O) (n i : Nat) : el (l.drop n) i = el l (n + i) := by
  unfold el; rw [List.getD_eq_getElem?_getD, List.getD_eq_getElem?_getD, List.getElem?_drop]
theorem below_grown {B : Nat} {w w' : World} {row : Option Nat} (h : w.grownBy w' row) (hr : ∀ g, row = some g → B ≤ g) (hB : B ≤ w.heap.size) : Below B w w' :=
  ⟨h.os, h.tape, h.output, h.size, fun k hk => h.block k (by omega) (fun e => by have := hr k e.symm; omega)⟩
set_option maxHeartbeats 4000000 in
theorem cut15_any (X : World) {B : Nat} {v : Value} {l : List O} (h : Oo X B v l) (hB : B ≤ X.heap.size) (hnd : (l.map (·.1)).Nodup) (hl : l.length ≤ 1000) (k : K) :
    Calls Try.prog 8 #[v, ek k] X fun e Y => ∃ v', e = .returned (.tuple #[v', .bool (decide (k ∈ l.map (·.1)))]) ∧ Oo Y B v' (del k l) ∧ Below X.heap.size X Y ∧ (∀ b, v'.ownBlock = some b → v.ownBlock = some b ∨ X.heap.size ≤ b) := by
  have hmix : Try.prog.follows .mixedOrders = true := by kernel_rfl
  obtain ⟨a1, c1, rfl⟩ := HpE.own_shape h
  obtain ⟨n, hn⟩ : ∃ n, n = l.length := ⟨_, rfl⟩
  obtain ⟨d, hd⟩ : ∃ d, d = decide (k ∈ l.map (·.1)) := ⟨_, rfl⟩
  have HS := Lib.hid (And.intro h (And.intro hl (And.intro hn (And.intro hB (And.intro hnd hd)))))
  rw [← hn, ← hd]
  have hl1 : ((n : Nat) : Int) ≤ 1000 := by omega
  clear h hl hn hB hnd hd
  unfold ek
  go_enter Try.func8, Try.ntmps8
  go_wp2_with fail
  go_loopw [10] (fun cv wr => ∃ (j : Nat), cv = .int .i64 ((j : Nat) : Int) ∧ j ≤ n ∧ (∀ q, q < j → (el l q).1 ≠ k) ∧ Below X.heap.size X wr) (fun cv _ => n - (RowKit.intOf cv).toNat)
  case atStart => exact ⟨0, rfl, Nat.zero_le _, fun q hq => by omega, Below.refl _ _⟩
  case round =>
    obtain ⟨j, rfl, hjn, hno, hb⟩ := hrel
    by_cases hjx : j < n
    · obtain ⟨ho, hl, hn, hB, hnd, hd⟩ := HS.out
      have hil : j < l.length := by omega
      obtain ⟨g, e1, hnc, hcm, hcells⟩ : ∃ g, a1 = some ⟨g, 0, none⟩ ∧ l.length ≤ c1 ∧ c1 ≤ maxLen ∧ ∀ i, i < l.length → X.cell? ⟨g, i * 3, none⟩ = some (ek (el l i).1) ∧ X.cell? ⟨g, i * 3 + 1, none⟩ = some (.int .i64 (((el l i).2.1 : Nat) : Int)) ∧ X.cell? ⟨g, i * 3 + 2, none⟩ = some (er (el l i).2.2) := by
        obtain ⟨g, c, h1, h2, h3, h4⟩ := oo_at ho hil
        cases h1; exact ⟨g, rfl, h2, h3, h4⟩
      subst e1
      obtain ⟨k1, t1, u1⟩ := hcells j hil
      have k2 := (hb.cell (World.block_lt_of_cell? _ _ k1)).trans k1
      have t2 := (hb.cell (World.block_lt_of_cell? _ _ t1)).trans t1
      have u2 := (hb.cell (World.block_lt_of_cell? _ _ u1)).trans u1
      obtain ⟨kj, hk⟩ : ∃ k, k = (el l j).1 := ⟨_, rfl⟩
      obtain ⟨p, hpp⟩ : ∃ p, p = (el l j).2.1 := ⟨_, rfl⟩
      obtain ⟨t, ht⟩ : ∃ t, t = (el l j).2.2 := ⟨_, rfl⟩
      rw [← hk] at k2
      rw [← hpp] at t2
      rw [← ht] at u2
      obtain ⟨V, hV⟩ : ∃ V, V = wr.alloc (.cells #[.string ⟨kj.toArray⟩, .int .i64 ((p : Nat) : Int), .int .u64 t] 35) := ⟨_, rfl⟩
      have hbV : Below wr.heap.size wr V := by rw [hV]; exact (Below.refl _ wr).alloc (Nat.le_refl _) _
      have hjc : ((j : Nat) : Int) < ((n : Nat) : Int) := by omega
      have hj0 : (0 : Int) ≤ ((j : Nat) : Int) := by omega
      have hj4 : ((j : Nat) : Int) ≤ 1000000 := by omega
      have HO := Lib.hid (And.intro hcells (And.intro hjx (And.intro hno (And.intro hk (And.intro (hb.trans (hbV.mono hb.size)) (And.intro hnc hcm))))))
      unfold ek at k2
      unfold er at u2
      clear ho hl hn hB hnd hd hcells k1 t1 u1 hb hbV hpp ht hno hjn
      by_cases hkk : kj = k
      · subst hkk
        obtain rfl : d = true := by rw [HS.out.2.2.2.2.2]; exact decide_eq_true (List.mem_map.2 ⟨el l j, el_mem (by have := HS.out.2.2.1; omega), HO.out.2.2.2.1.symm⟩)
        clear hk
        go_wp2_with fail
        rw [← hV]
        clear hV k2 t2 u2
        obtain ⟨i0, hi0, hz0, hz1, hz2⟩ := info_parts infoO
        have hnl := HS.out.2.2.1
        have hlm := HS.out.2.1
        have hjl : j < l.length := by omega
        have hti : (l.take j).length = j := by rw [List.length_take]; omega
        have hca : ∀ (m : List O) (o : Nat), (∀ i, i < m.length → X.cell? ⟨g, o + i * 3, none⟩ = some (ek (el m i).1) ∧ X.cell? ⟨g, o + i * 3 + 1, none⟩ = some (.int .i64 (((el m i).2.1 : Nat) : Int)) ∧ X.cell? ⟨g, o + i * 3 + 2, none⟩ = some (er (el m i).2.2)) → ∀ q u, (os m)[q]? = some u → X.cell? ((⟨g, o, none⟩ : Addr).add q) = some u := fun m o hm q u hu => by
          have hq : q < m.length * 3 := by have := (List.getElem?_eq_some_iff.1 hu).1; rwa [os_len] at this
          have h2 := os_get m (q / 3) (by omega)
          have h1 := hm (q / 3) (by omega)
          rw [Addr.add_mid, ← hu]
          rcases (by omega : q % 3 = 0 ∨ q % 3 = 1 ∨ q % 3 = 2) with e | e | e
          · rw [show q = q / 3 * 3 by omega, h2.1]; exact h1.1
          · rw [show q = q / 3 * 3 + 1 by omega, h2.2.1, ← Nat.add_assoc]; exact h1.2.1
          · rw [show q = q / 3 * 3 + 2 by omega, h2.2.2, ← Nat.add_assoc]; exact h1.2.2
        have hc1 : ∀ q u, (os (l.take j))[q]? = some u → X.cell? ((⟨g, 0, none⟩ : Addr).add q) = some u := hca _ 0 fun i hi => by
          rw [hti] at hi
          rw [el_take l (by omega), Nat.zero_add]
          exact HO.out.1 i (by omega)
        obtain ⟨y, hy, hc2⟩ : ∃ y : Addr, (if c1 = j + 1 then some (⟨g, 0, none⟩ : Addr) else (some (⟨g, 0, none⟩ : Addr)).map (·.add ((j + 1) * 3))) = some y ∧ ∀ q u, (os (l.drop (j + 1)))[q]? = some u → X.cell? (y.add q) = some u := by
          by_cases e : c1 = j + 1
          · refine ⟨⟨g, 0, none⟩, by rw [if_pos e], fun q u hu => ?_⟩
            have : l.drop (j + 1) = [] := List.drop_eq_nil_of_le (by have := HO.out.2.2.2.2.2.1; omega)
            rw [this] at hu
            simp [os] at hu
          · refine ⟨⟨g, (j + 1) * 3, none⟩, by rw [if_neg e]; simp [Addr.add], hca _ _ fun i hi => ?_⟩
            rw [List.length_drop] at hi
            rw [el_dropO, ← Nat.add_mul]
            exact HO.out.1 (j + 1 + i) (by omega)
        have hs1 := fun W => slice_hi W g n c1 j (by have := HO.out.2.2.2.2.2.1; omega)
        have hs2 := fun W => slice_low W g n c1 (j + 1) y (by omega) (by have := HO.out.2.2.2.2.2.1; omega) hy
        have hw2 : IntKind.i64.wrap (((j : Nat) : Int) + 1) = ((j + 1 : Nat) : Int) := by rw [IntWalk.i64_in] <;> omega
        obtain ⟨j2, hj2⟩ : ∃ i2, i2 = ((j + 1 : Nat) : Int) := ⟨_, rfl⟩
        rw [← hj2] at hs2 hw2
        obtain ⟨V0, hV0⟩ : ∃ W, W = (V.alloc (.cells #[] 35)).drew := ⟨_, rfl⟩
        have hown0 : V0.ownsRow V.heap.size 35 3 (.slice (some ⟨V.heap.size, 0, none⟩) 0 0) 0 [] := by rw [hV0]; exact World.ownsRow_made V #[] 0 (Nat.le_refl _) (Nat.zero_le _) rfl
        have hb0 : Below X.heap.size X V0 := by rw [hV0]; exact HO.out.2.2.2.2.1.trans ((((Below.refl _ _).alloc (Nat.le_refl _) _).drew).mono HO.out.2.2.2.2.1.size)
        have hzV : V.heap.size ≤ V0.heap.size := by rw [hV0]; simp [World.drew]
        obtain ⟨v1, V1, run1, o1, g1, _⟩ := run_append_own (P := Try.prog) V0 V.heap.size 26 26 35 i0 _ 3 32 Try.underlying26 hi0 hz0 hz1 hz2 rfl (by decide) _ 0 [] hown0 ⟨g, 0, none⟩ j c1 (os (l.take j)) (by rw [os_len, hti]) (fun q u hu => (hb0.cell (World.block_lt_of_cell? _ _ (hc1 q u hu))).trans (hc1 q u hu)) (os_one _) (by unfold maxLen; omega) (by omega) hzV
        have hb1 : Below X.heap.size X V1 := hb0.trans (below_grown g1 (fun k hk => by cases hk; exact HO.out.2.2.2.2.1.size) hb0.size)
        rw [Nat.zero_add, List.nil_append] at o1
        obtain ⟨v2, V2, run2, o2, g2, _⟩ := run_append_own (P := Try.prog) V1 V.heap.size 26 26 35 i0 _ 3 32 Try.underlying26 hi0 hz0 hz1 hz2 rfl (by decide) _ j (os (l.take j)) o1 y (n - (j + 1)) (c1 - (j + 1)) (os (l.drop (j + 1))) (by rw [os_len, List.length_drop, hnl]) (fun q u hu => (hb1.cell (World.block_lt_of_cell? _ _ (hc2 q u hu))).trans (hc2 q u hu)) (os_one _) (by unfold maxLen; omega) (by omega) (Nat.le_trans hzV g1.size)
        have hb2 : Below X.heap.size X V2 := hb1.trans (below_grown g2 (fun k hk => Nat.le_trans HO.out.2.2.2.2.1.size (o1.lt k hk).1) hb1.size)
        have hres : Oo V2 B v2 (del kj l) := by
          rw [← erase_del HS.out.2.2.2.2.1 hjl HO.out.2.2.2.1.symm]
          have e1 : os (l.eraseIdx j) = os (l.take j) ++ os (l.drop (j + 1)) := by rw [List.eraseIdx_eq_take_drop_succ, os_app]
          have e2 : (l.eraseIdx j).length = j + (n - (j + 1)) := by rw [List.length_eraseIdx, if_pos hjl]; omega
          unfold Oo
          rw [e1, e2]
          exact HpE.own_base o2 (Nat.le_trans HS.out.2.2.2.1 HO.out.2.2.2.2.1.size)
        have HE := Lib.hid (And.intro hres (And.intro hb2 (fun b (hb : v2.ownBlock = some b) => (Or.inr (Nat.le_trans HO.out.2.2.2.2.1.size (o2.lt b hb).1) : (Value.slice (some ⟨g, 0, none⟩) n c1).ownBlock = some b ∨ X.heap.size ≤ b))))
        have HR := Lib.hid (And.intro run1 run2)
        clear hca hc1 hc2 hy hown0 hb0 hzV o1 g1 hb1 o2 g2 hb2 hres run1 run2 hnl hlm hjl hti hj2 hi0 hz0 hz1 hz2
        refine begin' 99 (fun _ => True) hmix trivial (fun _ => ?_)
        refine Ht.takeN (i := 1) ⟨some 20, _, _, _, _, _⟩ (.slice (some ⟨g, 0, none⟩) n c1) rfl (Nat.le_of_ble_eq_true (by kernel_rfl)) (by kernel_rfl) (by kernel_rfl) (by kernel_rfl) (by kernel_rfl) trivial (Or.inl ⟨by rfl, by (intro X hX; go_simp)⟩) ?_
        simp only [Act.put, List.setIfInBounds_toArray, List.set_cons_zero, List.set_cons_succ]
        refine Ht.takeN (i := 2) ⟨some 21, _, _, _, _, _⟩ (.int .i64 ((j : Nat) : Int)) rfl (Nat.le_of_ble_eq_true (by kernel_rfl)) (by kernel_rfl) (by kernel_rfl) (by kernel_rfl) (by kernel_rfl) trivial (Or.inl ⟨by rfl, by (intro X hX; go_simp)⟩) ?_
        simp only [Act.put, List.setIfInBounds_toArray, List.set_cons_zero, List.set_cons_succ]
        refine Ht.takeN (i := 3) ⟨some 22, _, _, _, _, _⟩ (.slice (some ⟨g, 0, none⟩) j c1) rfl (Nat.le_of_ble_eq_true (by kernel_rfl)) (by kernel_rfl) (by kernel_rfl) (by kernel_rfl) (by kernel_rfl) trivial (Or.inl ⟨by rfl, by (intro X hX; have := hs1 X; go_simp)⟩) ?_
        simp only [Act.put, List.setIfInBounds_toArray, List.set_cons_zero, List.set_cons_succ]
        refine Ht.takeN (i := 5) ⟨some 24, _, _, _, _, _⟩ (.slice (some ⟨g, 0, none⟩) n c1) rfl (Nat.le_of_ble_eq_true (by kernel_rfl)) (by kernel_rfl) (by kernel_rfl) (by kernel_rfl) (by kernel_rfl) trivial (Or.inl ⟨by rfl, by (intro X hX; go_simp)⟩) ?_
        simp only [Act.put, List.setIfInBounds_toArray, List.set_cons_zero, List.set_cons_succ]
        refine Ht.takeN (i := 6) ⟨some 25, _, _, _, _, _⟩ (.int .i64 ((j : Nat) : Int)) rfl (Nat.le_of_ble_eq_true (by kernel_rfl)) (by kernel_rfl) (by kernel_rfl) (by kernel_rfl) (by kernel_rfl) trivial (Or.inl ⟨by rfl, by (intro X hX; go_simp)⟩) ?_
        simp only [Act.put, List.setIfInBounds_toArray, List.set_cons_zero, List.set_cons_succ]
        refine Ht.takeN (i := 7) ⟨some 26, _, _, _, _, _⟩ (.int .i64 j2) rfl (Nat.le_of_ble_eq_true (by kernel_rfl)) (by kernel_rfl) (by kernel_rfl) (by kernel_rfl) (by kernel_rfl) trivial (Or.inl ⟨by rfl, by (intro X hX; have := hw2; go_simp)⟩) ?_
        simp only [Act.put, List.setIfInBounds_toArray, List.set_cons_zero, List.set_cons_succ]
        refine Ht.takeN (i := 8) ⟨some 27, _, _, _, _, _⟩ (.slice (some y) (n - (j + 1)) (c1 - (j + 1))) rfl (Nat.le_of_ble_eq_true (by kernel_rfl)) (by kernel_rfl) (by kernel_rfl) (by kernel_rfl) (by kernel_rfl) trivial (Or.inl ⟨by rfl, by (intro X hX; have := hs2 X; go_simp)⟩) ?_
        simp only [Act.put, List.setIfInBounds_toArray, List.set_cons_zero, List.set_cons_succ]
        refine later [0, 4, 9, 10, 11] (fun _ => True) (True.intro) (fun hS0 => ?_)
        refine Ht.stepS (i := 0) ⟨some 19, _, _, _, _, _⟩ rfl (by kernel_rfl) (by rfl) (fun K hK => ?_)
        go_simp
        rw [← hV0]
        refine hK _ _ (fun hn => absurd (by decide) hn) (fun hnx => ?_)
        clear hK K hnx
        try simp only [Act.put, List.setIfInBounds_toArray, List.set_cons_zero, List.set_cons_succ]
        refine Ht.stepS (i := 4) ⟨some 23, _, _, _, _, _⟩ rfl (by kernel_rfl) (by rfl) (fun K hK => ?_)
        refine wp_append' _ _ _ rfl rfl rfl HR.out.1 ?_
        refine hK _ _ (fun hn => absurd (by decide) hn) (fun hnx => ?_)
        clear hK K hnx
        simp only [Act.put, List.setIfInBounds_toArray, List.set_cons_zero, List.set_cons_succ]
        refine Ht.stepS (i := 9) ⟨some 28, _, _, _, _, _⟩ rfl (by kernel_rfl) (by rfl) (fun K hK => ?_)
        refine wp_append' _ _ _ rfl rfl rfl HR.out.2 ?_
        refine hK _ _ (fun hn => absurd (by decide) hn) (fun hnx => ?_)
        clear hK K hnx
        simp only [Act.put, List.setIfInBounds_toArray, List.set_cons_zero, List.set_cons_succ]
        refine Ht.stepS (i := 10) ⟨some 4, _, _, _, _, _⟩ rfl (by kernel_rfl) (by rfl) (fun K hK => ?_)
        go_simp
        refine hK _ _ (fun hn => absurd (by decide) hn) (fun hnx => ?_)
        clear hK K hnx
        try simp only [Act.put, List.setIfInBounds_toArray, List.set_cons_zero, List.set_cons_succ]
        refine Ht.stepS (i := 11) ⟨some 5, _, _, _, _, _⟩ rfl (by kernel_rfl) (by rfl) (fun K hK => ?_)
        go_simp
        refine hK _ _ (fun hn => absurd (by decide) hn) (fun hnx => ?_)
        clear hK K hnx
        try simp only [Act.put, List.setIfInBounds_toArray, List.set_cons_zero, List.set_cons_succ]
        refine doneS (by kernel_rfl) ?_
        go_wp2_with fail
        refine bodyPost_ret (results_tmp2 rfl _ _ _) rfl ?_
        exact ⟨v2, rfl, HE.out.1, HE.out.2.1, HE.out.2.2⟩
      · have hkb : (kj == k) = false := beq_false_of_ne hkk
        have HN := Lib.hid (show (el l j).1 ≠ k by rw [← hk]; exact hkk)
        clear hkk hk
        go_wp2_with fail
        rw [← hV]
        go_roundw
        case rel => exact ⟨j + 1, by first | rfl | simp, HO.out.2.1, fun q hq => by
          rcases Nat.lt_or_ge q j with e | e
          · exact HO.out.2.2.1 q e
          · obtain rfl : q = j := by omega
            exact HN.out, HO.out.2.2.2.2.1⟩
        case measure => have := HO.out.2.1; simp only [RowKit.intOf]; omega
    · have hjc : ((n : Nat) : Int) ≤ ((j : Nat) : Int) := by omega
      have hje : j = n := by omega
      have HZ := Lib.hid (And.intro hno (And.intro hb hje))
      clear hno hb hje hjn hjx
      go_wp2_with fail
      refine bodyPost_ret (results_tmp2 rfl _ _ _) rfl ?_
      obtain ⟨hno, hb, hje⟩ := HZ.out
      obtain ⟨ho, hl, hn, hB, hnd, hd⟩ := HS.out
      have hnk : k ∉ l.map (·.1) := fun hm => by
        obtain ⟨x, hx, hxe⟩ := List.mem_map.1 hm
        obtain ⟨i, hi, rfl⟩ := mem_el hx
        exact hno i (by omega) hxe
      obtain rfl : d = false := by rw [hd]; exact decide_eq_false hnk
      refine ⟨.slice a1 n c1, rfl, ?_, hb, fun b e => .inl e⟩
      rw [del_not hnk]
      have := Nx.own_kept ho fun b hb2 => hb.block b (Nx.own_cell ho hb2).2.1
      rw [hn]; exact this
set_option maxHeartbeats 1000000 in
theorem at15_any (w : World) (c0 c1 c2 c3 : Int) (q : Int) (r : Int) (hq : (¬ (0 ≤ q ∧ q ≤ 3) ∧ r = 0) ∨ (q = 0 ∧ r = c0) ∨ (q = 1 ∧ r = c1) ∨ (q = 2 ∧ r = c2) ∨ (q = 3 ∧ r = c3)) :
    Calls Try.prog 18 #[.agg #[.int .i64 c0, .int .i64 c1, .int .i64 c2, .int .i64 c3], .int .i64 q] w fun e w' => e = .returned (.int .i64 r) ∧ Below w.heap.size w w' := by
  rcases hq with ⟨h, rfl⟩ | ⟨rfl, rfl⟩ | ⟨rfl, rfl⟩ | ⟨rfl, rfl⟩ | ⟨rfl, rfl⟩
  · by_cases h0 : q < 0
    · go_enter Try.func18, Try.ntmps18
      go_wp2_with fail
      go_ret
      exact ⟨rfl, (Below.refl _ _).alloc (Nat.le_refl _) _⟩
    · have h3 : 3 < q := by omega
      clear h
      go_enter Try.func18, Try.ntmps18
      go_wp2_with fail
      go_ret
      exact ⟨rfl, (Below.refl _ _).alloc (Nat.le_refl _) _⟩
  all_goals
    go_enter Try.func18, Try.ntmps18
    go_wp2_with fail
    go_ret
    exact ⟨rfl, (Below.refl _ _).alloc (Nat.le_refl _) _⟩
end Go.Proofs.Ytomkefaakgodhaa.Nx
