
/- pairs in a row: one cut out; what is gathered is sorted -/
import Derived.Test.YtpeapbhhlfbolaaHpPA
namespace Go.Proofs.Ytpeapbhhlfbolaa.HpA
open Go.RowKit Go.Lib Go.Sort Hp Ht
set_option linter.unusedVariables false
set_option maxRecDepth 20000
theorem infoP : (Try.prog.info? 33).map (fun i => (i.zero, i.size, i.bytes)) = some (some (.agg #[.int .u8 0, .int .i64 0]), 2, 16) := by kernel_rfl
theorem Src.cells {X : World} {v : Value} {l : List (K × Int)} {g c : Nat} (h : Src X v l) (hv : v = .slice (some ⟨g, 0, none⟩) l.length c) : ∀ i, i < l.length → X.cell? ⟨g, i * 2, none⟩ = some (ek (el l i).1) ∧ X.cell? ⟨g, i * 2 + 1, none⟩ = some (er (el l i).2) := by
  rcases h with ⟨rfl, _⟩ | ⟨g', c', h1, h2⟩
  · intro i hi; simp at hi
  · rw [hv] at h1
    cases h1
    exact h2
theorem cells_cs {X : World} {g o : Nat} {l : List (K × Int)} (h : ∀ i, i < l.length → X.cell? ⟨g, o + i * 2, none⟩ = some (ek (el l i).1) ∧ X.cell? ⟨g, o + i * 2 + 1, none⟩ = some (er (el l i).2)) : ∀ j u, (cs l)[j]? = some u → X.cell? ((⟨g, o, none⟩ : Addr).add j) = some u := by
  intro j u hu
  have hj : j < l.length * 2 := by rw [← cs_len l]; exact (List.getElem?_eq_some_iff.1 hu).1
  have e : (⟨g, o, none⟩ : Addr).add j = ⟨g, o + j, none⟩ := by unfold Addr.add; split <;> simp_all
  rw [e]
  have h1 := h (j / 2) (by omega)
  have h2 := cs_get l (j / 2) (by omega)
  rcases Nat.mod_two_eq_zero_or_one j with e2 | e2
  · have e3 : j = j / 2 * 2 := by omega
    rw [e3] at hu ⊢
    rw [h2.1] at hu
    rw [← hu]; exact h1.1
  · have e3 : j = j / 2 * 2 + 1 := by omega
    rw [e3] at hu ⊢
    rw [h2.2] at hu
    rw [← hu, ← Nat.add_assoc]; exact h1.2
theorem el_drop (l : List (K × Int)) (n i : Nat) : el (l.drop n) i = el l (n + i) := by
  unfold el; rw [List.getD_eq_getElem?_getD, List.getD_eq_getElem?_getD, List.getElem?_drop]
theorem below_grown {B : Nat} {w w' : World} {row : Option Nat} (h : w.grownBy w' row) (hr : ∀ g, row = some g → B ≤ g) (hB : B ≤ w.heap.size) : Below B w w' :=
  ⟨h.os, h.tape, h.output, h.size, fun k hk => h.block k (by omega) (fun e => by have := hr k e.symm; omega)⟩
theorem slice_hi (W : World) (g n c i : Nat) (h : i ≤ c) : (Instr.slice 26 (.slice (some ⟨g, 0, none⟩) n c) none (some (.int .i64 ((i : Nat) : Int))) none).run Try.prog W = .ok (.slice (some ⟨g, 0, none⟩) i c) W := by
  have h1 : ((i : Nat) : Int) ≤ ((c : Nat) : Int) := by omega
  clear h
  go_simp
theorem slice_lo (W : World) (g n c k : Nat) (y : Addr) (h : k ≤ n) (h2 : n ≤ c) (hy : (if c = k then some (⟨g, 0, none⟩ : Addr) else (some (⟨g, 0, none⟩ : Addr)).map (·.add (k * 2))) = some y) : (Instr.slice 26 (.slice (some ⟨g, 0, none⟩) n c) (some (.int .i64 ((k : Nat) : Int))) none none).run Try.prog W = .ok (.slice (some y) (n - k) (c - k)) W := by
  have h1 : ((k : Nat) : Int) ≤ ((n : Nat) : Int) := by omega
  have h3 : ((n : Nat) : Int) ≤ ((c : Nat) : Int) := by omega
  rw [← hy]
  clear h h2 hy
  go_simp
theorem cut09_any (X : World) (v : Value) (l : List (K × Int)) (h : Src X v l) (hcap : ∃ a c, v = .slice a l.length c ∧ l.length ≤ c ∧ c ≤ maxLen) (hl : l.length ≤ 1000000) {i : Nat} (hi : i < l.length) :
    Calls Try.prog 12 #[v, .int .i64 ((i : Nat) : Int)] X fun e Y => ∃ v', e = .returned v' ∧ Y.ownsRow X.heap.size 33 2 v' (l.length - 1) (cs (l.eraseIdx i)) ∧ Below X.heap.size X Y := by
  have hmix : Try.prog.follows .mixedOrders = true := by kernel_rfl
  obtain ⟨i0, hi0, hz0, hz1, hz2⟩ := info_parts infoP
  obtain ⟨a, c, hv, hlc, hcm⟩ := hcap
  obtain ⟨g, rfl, hcells⟩ : ∃ g, a = some ⟨g, 0, none⟩ ∧ ∀ i, i < l.length → X.cell? ⟨g, i * 2, none⟩ = some (ek (el l i).1) ∧ X.cell? ⟨g, i * 2 + 1, none⟩ = some (er (el l i).2) := by
    rcases h with ⟨rfl, _⟩ | ⟨g', c', h1, h2⟩
    · simp at hi
    · rw [hv] at h1
      cases h1
      exact ⟨g', rfl, h2⟩
  subst hv
  have hc1 : ∀ j u, (cs (l.take i))[j]? = some u → X.cell? ((⟨g, 0, none⟩ : Addr).add j) = some u := cells_cs fun j hj => by
    rw [List.length_take] at hj
    rw [el_take l (by omega), Nat.zero_add]
    exact hcells j (by omega)
  have hc2 : ∀ j u, (cs (l.drop (i + 1)))[j]? = some u → X.cell? ((⟨g, (i + 1) * 2, none⟩ : Addr).add j) = some u := cells_cs fun j hj => by
    rw [List.length_drop] at hj
    rw [el_drop, ← Nat.add_mul]
    exact hcells (i + 1 + j) (by omega)
  obtain ⟨y, hy, hyc⟩ : ∃ y : Addr, (if c = i + 1 then some (⟨g, 0, none⟩ : Addr) else (some (⟨g, 0, none⟩ : Addr)).map (·.add ((i + 1) * 2))) = some y ∧ ∀ j u, (cs (l.drop (i + 1)))[j]? = some u → X.cell? (y.add j) = some u := by
    by_cases e : c = i + 1
    · refine ⟨⟨g, 0, none⟩, by rw [if_pos e], fun j u hu => ?_⟩
      have : l.drop (i + 1) = [] := List.drop_eq_nil_of_le (by omega)
      rw [this] at hu
      simp [cs] at hu
    · exact ⟨⟨g, (i + 1) * 2, none⟩, by rw [if_neg e]; simp [Addr.add], hc2⟩
  have hs1 := fun W => slice_hi W g l.length c i (by omega)
  have hs2 := fun W => slice_lo W g l.length c (i + 1) y (by omega) (by omega) hy
  have hw2 : IntKind.i64.wrap (((i : Nat) : Int) + 1) = ((i + 1 : Nat) : Int) := by rw [IntWalk.i64_in] <;> omega
  have hlt1 : (cs (l.take i)).length = i * 2 := by rw [cs_len, List.length_take]; congr 1; omega
  have hlt2 : (cs (l.drop (i + 1))).length = (l.length - (i + 1)) * 2 := by rw [cs_len, List.length_drop]
  have hone1 := cs_one (l.take i)
  have hone2 := cs_one (l.drop (i + 1))
  have hbt : (0 + i) * 16 ≤ 140737488355328 ∧ (i + (l.length - (i + 1))) * 16 ≤ 140737488355328 ∧ 0 + i ≤ maxLen ∧ i + (l.length - (i + 1)) ≤ maxLen := by unfold maxLen; omega
  have hres : (l.length - 1) = i + (l.length - (i + 1)) := by omega
  have hcat : cs (l.eraseIdx i) = cs (l.take i) ++ cs (l.drop (i + 1)) := by rw [List.eraseIdx_eq_take_drop_succ, cs_app]
  rw [hcat, hres]
  have HA := Lib.hid (And.intro hc1 (And.intro hyc (And.intro hlt1 (And.intro hlt2 (And.intro hone1 (And.intro hone2 hbt))))))
  clear hcat hres hc1 hyc hlt1 hlt2 hone1 hone2 hbt hc2 hy hl hi hcells h hlc hcm
  obtain ⟨n, hn⟩ : ∃ n, n = l.length := ⟨_, rfl⟩
  rw [← hn] at hs1 hs2 HA ⊢
  obtain ⟨m, hm⟩ : ∃ m, m = n - (i + 1) := ⟨_, rfl⟩
  rw [← hm] at hs2 HA ⊢
  obtain ⟨A1, hA1⟩ : ∃ A, A = cs (l.take i) := ⟨_, rfl⟩
  obtain ⟨A2, hA2⟩ : ∃ A, A = cs (l.drop (i + 1)) := ⟨_, rfl⟩
  rw [← hA1, ← hA2] at HA ⊢
  obtain ⟨c2, hc2⟩ : ∃ c2, c2 = c - (i + 1) := ⟨_, rfl⟩
  rw [← hc2] at hs2
  obtain ⟨i2, hi2⟩ : ∃ i2, i2 = ((i + 1 : Nat) : Int) := ⟨_, rfl⟩
  rw [← hi2] at hs2 hw2
  have HB := Lib.hid (And.intro hn (And.intro hm (And.intro hc2 hi2)))
  clear hn hm hA1 hA2 hc2 hi2
  go_enter Try.func12, Try.ntmps12
  go_wp2_with fail
  refine begin' 99 (fun _ => True) hmix trivial (fun _ => ?_)
  refine Ht.takeN (i := 1) ⟨some 6, _, _, _, _, _⟩ (.slice (some ⟨g, 0, none⟩) n c) rfl (Nat.le_of_ble_eq_true (by kernel_rfl)) (by kernel_rfl) (by kernel_rfl) (by kernel_rfl) (by kernel_rfl) trivial (Or.inl ⟨by rfl, by (intro X hX; go_simp)⟩) ?_
  simp only [Act.put, List.setIfInBounds_toArray, List.set_cons_zero, List.set_cons_succ]
  refine Ht.takeN (i := 2) ⟨some 7, _, _, _, _, _⟩ (.int .i64 ((i : Nat) : Int)) rfl (Nat.le_of_ble_eq_true (by kernel_rfl)) (by kernel_rfl) (by kernel_rfl) (by kernel_rfl) (by kernel_rfl) trivial (Or.inl ⟨by rfl, by (intro X hX; go_simp)⟩) ?_
  simp only [Act.put, List.setIfInBounds_toArray, List.set_cons_zero, List.set_cons_succ]
  refine Ht.takeN (i := 3) ⟨some 8, _, _, _, _, _⟩ (.slice (some ⟨g, 0, none⟩) i c) rfl (Nat.le_of_ble_eq_true (by kernel_rfl)) (by kernel_rfl) (by kernel_rfl) (by kernel_rfl) (by kernel_rfl) trivial (Or.inl ⟨by rfl, by (intro X hX; have := hs1 X; go_simp)⟩) ?_
  simp only [Act.put, List.setIfInBounds_toArray, List.set_cons_zero, List.set_cons_succ]
  refine Ht.takeN (i := 5) ⟨some 10, _, _, _, _, _⟩ (.slice (some ⟨g, 0, none⟩) n c) rfl (Nat.le_of_ble_eq_true (by kernel_rfl)) (by kernel_rfl) (by kernel_rfl) (by kernel_rfl) (by kernel_rfl) trivial (Or.inl ⟨by rfl, by (intro X hX; go_simp)⟩) ?_
  simp only [Act.put, List.setIfInBounds_toArray, List.set_cons_zero, List.set_cons_succ]
  refine Ht.takeN (i := 6) ⟨some 11, _, _, _, _, _⟩ (.int .i64 ((i : Nat) : Int)) rfl (Nat.le_of_ble_eq_true (by kernel_rfl)) (by kernel_rfl) (by kernel_rfl) (by kernel_rfl) (by kernel_rfl) trivial (Or.inl ⟨by rfl, by (intro X hX; go_simp)⟩) ?_
  simp only [Act.put, List.setIfInBounds_toArray, List.set_cons_zero, List.set_cons_succ]
  refine Ht.takeN (i := 7) ⟨some 12, _, _, _, _, _⟩ (.int .i64 i2) rfl (Nat.le_of_ble_eq_true (by kernel_rfl)) (by kernel_rfl) (by kernel_rfl) (by kernel_rfl) (by kernel_rfl) trivial (Or.inl ⟨by rfl, by (intro X hX; have := hw2; go_simp)⟩) ?_
  simp only [Act.put, List.setIfInBounds_toArray, List.set_cons_zero, List.set_cons_succ]
  refine Ht.takeN (i := 8) ⟨some 13, _, _, _, _, _⟩ (.slice (some y) m c2) rfl (Nat.le_of_ble_eq_true (by kernel_rfl)) (by kernel_rfl) (by kernel_rfl) (by kernel_rfl) (by kernel_rfl) trivial (Or.inl ⟨by rfl, by (intro X hX; have := hs2 X; go_simp)⟩) ?_
  simp only [Act.put, List.setIfInBounds_toArray, List.set_cons_zero, List.set_cons_succ]
  refine later [0, 4, 9, 10] (fun _ => True) (True.intro) (fun hS0 => ?_)
  refine Ht.stepS (i := 0) ⟨some 5, _, _, _, _, _⟩ rfl (by kernel_rfl) (by rfl) (fun K hK => ?_)
  go_simp
  refine hK _ _ (fun hn => absurd (by decide) hn) (fun hnx => ?_)
  clear hK K hnx
  try simp only [Act.put, List.setIfInBounds_toArray, List.set_cons_zero, List.set_cons_succ]
  obtain ⟨V0, hV0⟩ : ∃ V, V = (X.alloc (.cells #[] 33)).drew := ⟨_, rfl⟩
  have hown0 : V0.ownsRow X.heap.size 33 2 (.slice (some ⟨X.heap.size, 0, none⟩) 0 0) 0 [] := by rw [hV0]; exact World.ownsRow_made X #[] 0 (Nat.le_refl _) (Nat.zero_le _) rfl
  have hb0 : Below X.heap.size X V0 := by rw [hV0]; exact ((Below.refl _ _).alloc (Nat.le_refl _) _).drew
  obtain ⟨q1, q2, q3, q4, q5, q6, q7, q8, q9, q10⟩ := HA.out
  obtain ⟨v1, V1, run1, o1, g1, _⟩ := run_append_own (P := Try.prog) V0 X.heap.size 26 26 33 i0 _ 2 16 Try.underlying26 hi0 hz0 hz1 hz2 rfl (by decide) _ 0 [] hown0 ⟨g, 0, none⟩ i c A1 q3 (fun j u hu => (hb0.cell (World.block_lt_of_cell? _ _ (q1 j u hu))).trans (q1 j u hu)) q5 q9 q7 hb0.size
  have hb1 : Below X.heap.size X V1 := hb0.trans (below_grown g1 (fun k hk => by cases hk; exact Nat.le_refl _) hb0.size)
  rw [Nat.zero_add, List.nil_append] at o1
  obtain ⟨v2, V2, run2, o2, g2, _⟩ := run_append_own (P := Try.prog) V1 X.heap.size 26 26 33 i0 _ 2 16 Try.underlying26 hi0 hz0 hz1 hz2 rfl (by decide) _ i A1 o1 y m c2 A2 q4 (fun j u hu => (hb1.cell (World.block_lt_of_cell? _ _ (q2 j u hu))).trans (q2 j u hu)) q6 q10 q8 hb1.size
  have hb2 : Below X.heap.size X V2 := hb1.trans (below_grown g2 (fun k hk => (o1.lt k hk).1) hb1.size)
  have HE := Lib.hid (And.intro o2 hb2)
  clear hb0 hb1 hb2 g1 g2 o2 o1 q1 q2 q3 q4 q5 q6 q7 q8 q9 q10 hown0
  refine Ht.stepS (i := 4) ⟨some 9, _, _, _, _, _⟩ rfl (by kernel_rfl) (by rfl) (fun K hK => ?_)
  rw [← hV0]
  refine wp_append _ _ _ rfl rfl rfl run1 ?_
  refine hK _ _ (fun hn => absurd (by decide) hn) (fun hnx => ?_)
  clear hK K hnx run1
  simp only [Act.put, List.setIfInBounds_toArray, List.set_cons_zero, List.set_cons_succ]
  refine Ht.stepS (i := 9) ⟨some 14, _, _, _, _, _⟩ rfl (by kernel_rfl) (by rfl) (fun K hK => ?_)
  refine wp_append _ _ _ rfl rfl rfl run2 ?_
  refine hK _ _ (fun hn => absurd (by decide) hn) (fun hnx => ?_)
  clear hK K hnx run2
  simp only [Act.put, List.setIfInBounds_toArray, List.set_cons_zero, List.set_cons_succ]
  refine Ht.stepS (i := 10) ⟨some 4, _, _, _, _, _⟩ rfl (by kernel_rfl) (by rfl) (fun K hK => ?_)
  go_simp
  refine hK _ _ (fun hn => absurd (by decide) hn) (fun hnx => ?_)
  clear hK K hnx
  try simp only [Act.put, List.setIfInBounds_toArray, List.set_cons_zero, List.set_cons_succ]
  refine doneS (by kernel_rfl) ?_
  go_wp2_with fail
  go_ret
  exact ⟨v2, rfl, HE.out.1, HE.out.2⟩
end Go.Proofs.Ytpeapbhhlfbolaa.HpA

