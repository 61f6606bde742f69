
/- pairs in a row: found, the least one, cut out -/
import Derived.Test.YtpeapbhhlfbolaaHpYA
import Derived.Test.YtpeapbhhlfbolaaHpOA
namespace Go.Proofs.Ytpeapbhhlfbolaa.HpA
open Go.RowKit Go.Lib Go.Sort Hp Ht
set_option linter.unusedVariables false
set_option maxRecDepth 20000
/-- pairs that lie in a row -/
def Src (X : World) (v : Value) (l : List (K × Int)) : Prop :=
  (l = [] ∧ ∃ p c, v = .slice p 0 c) ∨ ∃ g c, v = .slice (some ⟨g, 0, none⟩) l.length c ∧ ∀ i, i < l.length → X.cell? ⟨g, i * 2, none⟩ = some (ek (el l i).1) ∧ X.cell? ⟨g, i * 2 + 1, none⟩ = some (er (el l i).2)
theorem Src.old {X Y : World} {v : Value} {l : List (K × Int)} (h : Src X v l) (e : Below X.heap.size X Y) : Src Y v l := by
  rcases h with h | ⟨g, c, h1, h2⟩
  · exact .inl h
  · exact .inr ⟨g, c, h1, fun i hi => ⟨(e.cell (World.block_lt_of_cell? _ _ (h2 i hi).1)).trans (h2 i hi).1, (e.cell (World.block_lt_of_cell? _ _ (h2 i hi).2)).trans (h2 i hi).2⟩⟩
theorem src_own {X : World} {B : Nat} {t : TypeId} {v : Value} {l : List (K × Int)} (h : X.ownsRow B t 2 v l.length (cs l)) : Src X v l := by
  rcases h.2 with ⟨rfl, h0⟩ | ⟨g, cap, cur, rfl, _, _⟩
  · exact .inl ⟨List.eq_nil_of_length_eq_zero h0, none, 0, rfl⟩
  · refine .inr ⟨g, cap, rfl, fun i hi => ?_⟩
    have hc := h.cells (g := g) rfl
    have hg := cs_get l i hi
    have h1 := hc _ _ hg.1
    have h2 := hc _ _ hg.2
    have e : ∀ j, (⟨g, 0, none⟩ : Addr).add j = ⟨g, j, none⟩ := fun j => by unfold Addr.add; split <;> simp_all
    rw [e] at h1 h2
    exact ⟨h1, h2⟩
theorem Src.shape {X : World} {v : Value} {l : List (K × Int)} (h : Src X v l) : ∃ a c, v = .slice a l.length c ∧ (l ≠ [] → ∃ g, a = some ⟨g, 0, none⟩ ∧ ∀ i, i < l.length → X.cell? ⟨g, i * 2, none⟩ = some (ek (el l i).1) ∧ X.cell? ⟨g, i * 2 + 1, none⟩ = some (er (el l i).2)) := by
  rcases h with ⟨rfl, p, c, rfl⟩ | ⟨g, c, h1, h2⟩
  · exact ⟨p, c, rfl, fun h => absurd rfl h⟩
  · exact ⟨_, c, h1, fun _ => ⟨g, rfl, h2⟩⟩
/-- where a key is -/
def ix (k : K) (l : List (K × Int)) (i : Nat) : Prop := (∀ j, j < i → j < l.length → (el l j).1 ≠ k) ∧ i ≤ l.length ∧ (i < l.length → (el l i).1 = k)
theorem ix_out {k : K} {l : List (K × Int)} (h : ix k l l.length) : k ∉ l.map (·.1) := fun hm => by
  obtain ⟨p, hp, rfl⟩ := List.mem_map.1 hm
  obtain ⟨i, hi, rfl⟩ := mem_el hp
  exact h.1 i hi hi rfl
def ixv (l : List (K × Int)) (i : Nat) : Int := if i < l.length then ((i : Nat) : Int) else -1
set_option maxRecDepth 100000 in
theorem find_any (X : World) (v : Value) (l : List (K × Int)) (h : Src X v l) (hl : l.length ≤ 1000000) (k : Int) :
    Calls Try.prog 8 #[v, .int .u8 k] X fun e Y => ∃ i, ix k l i ∧ e = .returned (.int .i64 (ixv l i)) ∧ Y = X := by
  obtain ⟨a, c, rfl, hc⟩ := h.shape
  have HC := Lib.hid (And.intro hc hl)
  clear h hc hl
  obtain ⟨n, hn⟩ : ∃ n, n = l.length := ⟨_, rfl⟩
  rw [← hn]
  have HN := Lib.hid hn
  clear hn
  go_enter Try.func8, Try.ntmps8
  go_wp2_with fail
  go_loopw [8] (fun i wr => ∃ m : Nat, i = .int .i64 ((m : Nat) : Int) ∧ m ≤ l.length ∧ wr = X ∧ ∀ j, j < m → j < l.length → (el l j).1 ≠ k) (fun i _ => l.length - (RowKit.intOf i).toNat)
  case atStart => exact ⟨0, rfl, Nat.zero_le _, rfl, fun j hj => by omega⟩
  case round =>
    obtain ⟨m, rfl, hm, rfl, hj⟩ := hrel
    by_cases hlt : m < l.length
    · obtain ⟨g, rfl, hcells⟩ := HC.out.1 (fun e => by rw [e] at hlt; simp at hlt)
      have hk1 := (hcells m hlt).1
      obtain ⟨p, hp⟩ : ∃ x : Int, x = (el l m).1 := ⟨_, rfl⟩
      rw [← hp] at hk1
      unfold ek at hk1
      have hltx : ((m : Nat) : Int) < ((n : Nat) : Int) := by have := HN.out; omega
      have hw1 := Lib.hid (wrap_succ (m := m) (by have := HC.out.2; omega))
      have HX := Lib.hid (And.intro hj (And.intro hp (And.intro hlt hm)))
      clear hcells hj hp hlt hm
      by_cases hpk : p = k
      · have hpk1 : (p : Int) = k := hpk
        clear hpk
        go_wp2_with fail
        go_ret
        refine ⟨m, ⟨HX.out.1, HX.out.2.2.2, fun _ => by rw [← HX.out.2.1]; exact hpk1⟩, by unfold ixv; rw [if_pos HX.out.2.2.1]; simp, rfl⟩
      · have hpk1 : ¬ (p : Int) = k := hpk
        have hpk2 := Lib.hid hpk
        clear hpk
        go_wp2_with fail
        exact ⟨⟨m + 1, by rw [hw1.out], HX.out.2.2.1, True.intro, fun j h1 h2 => by
          by_cases e : j = m
          · rw [e, ← HX.out.2.1]; exact hpk2.out
          · exact HX.out.1 j (by omega) h2⟩, by have := HX.out.2.2.1; rw [hw1.out]; simp [RowKit.intOf]; omega⟩
    · have hltx : ((n : Nat) : Int) ≤ ((m : Nat) : Int) := by have := HN.out; omega
      have HX := Lib.hid (And.intro hj (And.intro hlt hm))
      clear hj hlt hm
      go_wp2_with fail
      go_ret
      have h5 := HX.out.2.1
      exact ⟨l.length, ⟨fun j h1 h2 => HX.out.1 j (by omega) h2, Nat.le_refl _, fun h => absurd h (Nat.lt_irrefl _)⟩, by unfold ixv; rw [if_neg (Nat.lt_irrefl _)]; simp, rfl⟩
theorem ahead09_any (x y : K × Int) (w : World) : Calls Try.prog 39 #[.agg #[ek x.1, er x.2], .agg #[ek y.1, er y.2]] w fun e w' => e = .returned (.bool (ltp x y)) ∧ Below w.heap.size w w' := by
  obtain ⟨x1, x2⟩ := x
  obtain ⟨y1, y2⟩ := y
  have hl : ltp ((x1, x2) : K × Int) (y1, y2) = (decide (x2 < y2) || (decide (x2 = y2) && decide ((x1 : Int) < y1))) := rfl
  rw [hl]
  unfold ek er
  by_cases h1 : x2 < y2
  · go_enter Try.func39, Try.ntmps39
    go_wp2_with fail
    go_ret
    exact ⟨by simp [h1], ((Below.refl w.heap.size w).alloc (Nat.le_refl _) _).alloc (by simp) _⟩
  · by_cases h2 : x2 = y2
    · subst h2
      go_enter Try.func39, Try.ntmps39
      go_wp2_with fail
      go_ret
      exact ⟨by simp, ((Below.refl w.heap.size w).alloc (Nat.le_refl _) _).alloc (by simp) _⟩
    · go_enter Try.func39, Try.ntmps39
      go_wp2_with fail
      go_ret
      exact ⟨by simp [h1], ((Below.refl w.heap.size w).alloc (Nat.le_refl _) _).alloc (by simp) _⟩
set_option maxRecDepth 100000 in
theorem least_any (X : World) (v : Value) (l : List (K × Int)) (h : Src X v l) (hl : l.length ≤ 1000000) :
    Calls Try.prog 14 #[v] X fun e Y => ((l = [] ∧ e = .returned (.int .i64 (-1))) ∨ ∃ i, i < l.length ∧ Lst l (el l i) ∧ e = .returned (.int .i64 ((i : Nat) : Int))) ∧ Below X.heap.size X Y := by
  have hmix : Try.prog.follows .mixedOrders = true := by kernel_rfl
  obtain ⟨a, c, rfl, hc⟩ := h.shape
  have HC := Lib.hid (And.intro hc hl)
  clear h hc hl
  obtain ⟨n, hn⟩ : ∃ n, n = l.length := ⟨_, rfl⟩
  rw [← hn]
  have HN := Lib.hid hn
  clear hn
  go_enter Try.func14, Try.ntmps14
  go_wp2_with fail
  go_loopw [3, 7] (fun bv i wr => ∃ m : Nat, i = .int .i64 ((m : Nat) : Int) ∧ m ≤ l.length ∧ Below X.heap.size X wr ∧ ((m = 0 ∧ bv = .int .i64 (-1)) ∨ ∃ b : Nat, b < m ∧ bv = .int .i64 ((b : Nat) : Int) ∧ ∀ j, j < m → ltp (el l j) (el l b) = false)) (fun _ i _ => l.length - (RowKit.intOf i).toNat)
  case atStart => exact ⟨0, rfl, Nat.zero_le _, Below.refl _ _, .inl ⟨rfl, rfl⟩⟩
  case round =>
    obtain ⟨m, rfl, hm, hb, hbest⟩ := hrel
    by_cases hlt : m < l.length
    · obtain ⟨g, rfl, hcells⟩ := HC.out.1 (fun e => by rw [e] at hlt; simp at hlt)
      have hltx : ((m : Nat) : Int) < ((n : Nat) : Int) := by have := HN.out; omega
      have hsm : ((m : Nat) : Int) < 1000000 := by have := HC.out.2; omega
      rcases hbest with ⟨rfl, rfl⟩ | ⟨b, hbm, rfl, hall⟩
      · have HX := Lib.hid (And.intro hb hlt)
        clear hb hlt hm hcells
        go_wp2_with fail
        refine begin' 99 (fun _ => True) hmix trivial (fun _ => ?_)
        refine later [12] (fun _ => True) (True.intro) (fun hS0 => ?_)
        refine Ht.takeS 10 (i := 0) ⟨some 10, _, _, _, _, _⟩ (.int .i64 (-1)) rfl (by kernel_rfl) (by kernel_rfl) (by kernel_rfl) (by kernel_rfl) (by kernel_rfl) hS0 (Or.inl ⟨by rfl, by (intro X hX; go_simp)⟩) ?_
        simp only [Act.put, List.setIfInBounds_toArray, List.set_cons_zero, List.set_cons_succ]
        refine Ht.takeS 10 (i := 1) ⟨some 11, _, _, _, _, _⟩ (.bool true) rfl (by kernel_rfl) (by kernel_rfl) (by kernel_rfl) (by kernel_rfl) (by kernel_rfl) hS0 (Or.inl ⟨by rfl, by (intro X hX; go_simp)⟩) ?_
        simp only [Act.put, List.setIfInBounds_toArray, List.set_cons_zero, List.set_cons_succ]
        refine Ht.takeS 10 (i := 2) ⟨some 12, _, _, _, _, _⟩ (.bool true) rfl (by kernel_rfl) (by kernel_rfl) (by kernel_rfl) (by kernel_rfl) (by kernel_rfl) hS0 (Or.inl ⟨by rfl, by (intro X hX; go_simp)⟩) ?_
        simp only [Act.put, List.setIfInBounds_toArray, List.set_cons_zero, List.set_cons_succ]
        refine Ht.takeS 10 (i := 3) ⟨some 13, _, _, _, _, _⟩ (undef) rfl (by kernel_rfl) (by kernel_rfl) (by kernel_rfl) (by kernel_rfl) (by kernel_rfl) hS0 (Or.inr ⟨by rfl, by rfl⟩) ?_
        simp only [Act.put, List.setIfInBounds_toArray, List.set_cons_zero, List.set_cons_succ]
        refine Ht.takeS 10 (i := 4) ⟨some 14, _, _, _, _, _⟩ (undef) rfl (by kernel_rfl) (by kernel_rfl) (by kernel_rfl) (by kernel_rfl) (by kernel_rfl) hS0 (Or.inr ⟨by rfl, by rfl⟩) ?_
        simp only [Act.put, List.setIfInBounds_toArray, List.set_cons_zero, List.set_cons_succ]
        refine Ht.takeS 10 (i := 5) ⟨some 15, _, _, _, _, _⟩ (undef) rfl (by kernel_rfl) (by kernel_rfl) (by kernel_rfl) (by kernel_rfl) (by kernel_rfl) hS0 (Or.inr ⟨by rfl, by rfl⟩) ?_
        simp only [Act.put, List.setIfInBounds_toArray, List.set_cons_zero, List.set_cons_succ]
        refine Ht.takeS 10 (i := 6) ⟨some 16, _, _, _, _, _⟩ (undef) rfl (by kernel_rfl) (by kernel_rfl) (by kernel_rfl) (by kernel_rfl) (by kernel_rfl) hS0 (Or.inr ⟨by rfl, by rfl⟩) ?_
        simp only [Act.put, List.setIfInBounds_toArray, List.set_cons_zero, List.set_cons_succ]
        refine Ht.takeS 10 (i := 7) ⟨some 17, _, _, _, _, _⟩ (undef) rfl (by kernel_rfl) (by kernel_rfl) (by kernel_rfl) (by kernel_rfl) (by kernel_rfl) hS0 (Or.inr ⟨by rfl, by rfl⟩) ?_
        simp only [Act.put, List.setIfInBounds_toArray, List.set_cons_zero, List.set_cons_succ]
        refine Ht.takeS 10 (i := 8) ⟨some 18, _, _, _, _, _⟩ (undef) rfl (by kernel_rfl) (by kernel_rfl) (by kernel_rfl) (by kernel_rfl) (by kernel_rfl) hS0 (Or.inr ⟨by rfl, by rfl⟩) ?_
        simp only [Act.put, List.setIfInBounds_toArray, List.set_cons_zero, List.set_cons_succ]
        refine Ht.takeS 10 (i := 9) ⟨some 19, _, _, _, _, _⟩ (undef) rfl (by kernel_rfl) (by kernel_rfl) (by kernel_rfl) (by kernel_rfl) (by kernel_rfl) hS0 (Or.inr ⟨by rfl, by rfl⟩) ?_
        simp only [Act.put, List.setIfInBounds_toArray, List.set_cons_zero, List.set_cons_succ]
        refine Ht.takeS 10 (i := 10) ⟨some 20, _, _, _, _, _⟩ (undef) rfl (by kernel_rfl) (by kernel_rfl) (by kernel_rfl) (by kernel_rfl) (by kernel_rfl) hS0 (Or.inr ⟨by rfl, by rfl⟩) ?_
        simp only [Act.put, List.setIfInBounds_toArray, List.set_cons_zero, List.set_cons_succ]
        refine Ht.takeS 10 (i := 11) ⟨some 21, _, _, _, _, _⟩ (undef) rfl (by kernel_rfl) (by kernel_rfl) (by kernel_rfl) (by kernel_rfl) (by kernel_rfl) hS0 (Or.inr ⟨by rfl, by rfl⟩) ?_
        simp only [Act.put, List.setIfInBounds_toArray, List.set_cons_zero, List.set_cons_succ]
        refine Ht.stepS (i := 12) ⟨some 22, _, _, _, _, _⟩ rfl (by kernel_rfl) (by rfl) (fun K hK => ?_)
        go_simp
        refine hK _ _ (fun hn => absurd (by decide) hn) (fun hnx => ?_)
        clear hK K hnx
        try simp only [Act.put, List.setIfInBounds_toArray, List.set_cons_zero, List.set_cons_succ]
        refine doneS (by kernel_rfl) ?_
        go_wp2_with fail
        exact ⟨⟨0 + 1, rfl, HX.out.2, HX.out.1.drew, .inr ⟨0, by omega, rfl, fun j hj => by
          have : j = 0 := by omega
          rw [this]; exact (swo Hp.tot_int).irrefl _⟩⟩, by have := HX.out.2; simp [RowKit.intOf]; omega⟩
      · have hbl : b < l.length := by omega
        obtain ⟨k1, r1⟩ := hcells m hlt
        obtain ⟨k2, r2⟩ := hcells b hbl
        have hcall := fun W => ahead09_any (el l m) (el l b) W
        obtain ⟨t, ht⟩ : ∃ t, t = ltp (el l m) (el l b) := ⟨_, rfl⟩
        rw [← ht] at hcall
        obtain ⟨p1, hp1⟩ : ∃ x, x = (el l m).1 := ⟨_, rfl⟩
        obtain ⟨q1, hq1⟩ : ∃ x, x = (el l m).2 := ⟨_, rfl⟩
        obtain ⟨p2, hp2⟩ : ∃ x, x = (el l b).1 := ⟨_, rfl⟩
        obtain ⟨q2, hq2⟩ : ∃ x, x = (el l b).2 := ⟨_, rfl⟩
        rw [← hp1] at k1 hcall
        rw [← hq1] at r1 hcall
        rw [← hp2] at k2 hcall
        rw [← hq2] at r2 hcall
        have k1 := (hb.cell (World.block_lt_of_cell? _ _ k1)).trans k1
        have r1 := (hb.cell (World.block_lt_of_cell? _ _ r1)).trans r1
        have k2 := (hb.cell (World.block_lt_of_cell? _ _ k2)).trans k2
        have r2 := (hb.cell (World.block_lt_of_cell? _ _ r2)).trans r2
        have HX := Lib.hid (And.intro hb (And.intro hlt (And.intro hbm (And.intro hall (And.intro ht hm)))))
        have HCA := Lib.hid hcall
        unfold ek er at HCA
        unfold ek at k1 k2
        unfold er at r1 r2
        have hbx : ((b : Nat) : Int) < ((n : Nat) : Int) := by have := HN.out; omega
        clear hb hlt hbm hall ht hm hcall hp1 hq1 hp2 hq2 hcells hbl
        go_wp2_with fail
        refine begin' 99 (fun _ => True) hmix trivial (fun _ => ?_)
        refine later [11, 12] (fun X => X.cell? ⟨g, m * 2, none⟩ = some ((.int .u8 p1)) ∧ X.cell? ⟨g, m * 2 + 1, none⟩ = some ((.int .i64 q1)) ∧ X.cell? ⟨g, b * 2, none⟩ = some ((.int .u8 p2)) ∧ X.cell? ⟨g, b * 2 + 1, none⟩ = some ((.int .i64 q2))) (⟨k1, r1, k2, r2⟩) (fun hS0 => ?_)
        refine Ht.takeS 10 (i := 0) ⟨some 10, _, _, _, _, _⟩ (.int .i64 ((b : Nat) : Int)) rfl (by kernel_rfl) (by kernel_rfl) (by kernel_rfl) (by kernel_rfl) (by kernel_rfl) hS0 (Or.inl ⟨by rfl, by (intro X hX; go_simp)⟩) ?_
        simp only [Act.put, List.setIfInBounds_toArray, List.set_cons_zero, List.set_cons_succ]
        refine Ht.takeS 10 (i := 1) ⟨some 11, _, _, _, _, _⟩ (.bool false) rfl (by kernel_rfl) (by kernel_rfl) (by kernel_rfl) (by kernel_rfl) (by kernel_rfl) hS0 (Or.inl ⟨by rfl, by (intro X hX; go_simp)⟩) ?_
        simp only [Act.put, List.setIfInBounds_toArray, List.set_cons_zero, List.set_cons_succ]
        refine Ht.takeS 10 (i := 2) ⟨some 12, _, _, _, _, _⟩ (.bool false) rfl (by kernel_rfl) (by kernel_rfl) (by kernel_rfl) (by kernel_rfl) (by kernel_rfl) hS0 (Or.inl ⟨by rfl, by (intro X hX; go_simp)⟩) ?_
        simp only [Act.put, List.setIfInBounds_toArray, List.set_cons_zero, List.set_cons_succ]
        refine Ht.takeS 10 (i := 3) ⟨some 13, _, _, _, _, _⟩ (.slice (some ⟨g, 0, none⟩) n c) rfl (by kernel_rfl) (by kernel_rfl) (by kernel_rfl) (by kernel_rfl) (by kernel_rfl) hS0 (Or.inl ⟨by rfl, by (intro X hX; go_simp)⟩) ?_
        simp only [Act.put, List.setIfInBounds_toArray, List.set_cons_zero, List.set_cons_succ]
        refine Ht.takeS 10 (i := 4) ⟨some 14, _, _, _, _, _⟩ (.int .i64 ((m : Nat) : Int)) rfl (by kernel_rfl) (by kernel_rfl) (by kernel_rfl) (by kernel_rfl) (by kernel_rfl) hS0 (Or.inl ⟨by rfl, by (intro X hX; go_simp)⟩) ?_
        simp only [Act.put, List.setIfInBounds_toArray, List.set_cons_zero, List.set_cons_succ]
        refine Ht.takeS 10 (i := 5) ⟨some 15, _, _, _, _, _⟩ (.pointer (some ⟨g, m * 2, none⟩)) rfl (by kernel_rfl) (by kernel_rfl) (by kernel_rfl) (by kernel_rfl) (by kernel_rfl) hS0 (Or.inl ⟨by rfl, by (intro X hX; go_simp)⟩) ?_
        simp only [Act.put, List.setIfInBounds_toArray, List.set_cons_zero, List.set_cons_succ]
        refine Ht.takeS 10 (i := 6) ⟨some 16, _, _, _, _, _⟩ (.agg #[(.int .u8 p1), (.int .i64 q1)]) rfl (by kernel_rfl) (by kernel_rfl) (by kernel_rfl) (by kernel_rfl) (by kernel_rfl) hS0 (Or.inl ⟨by rfl, by (intro X hX; have := And.intro hX.1 hX.2.1; go_simp)⟩) ?_
        simp only [Act.put, List.setIfInBounds_toArray, List.set_cons_zero, List.set_cons_succ]
        refine Ht.takeS 10 (i := 7) ⟨some 17, _, _, _, _, _⟩ (.slice (some ⟨g, 0, none⟩) n c) rfl (by kernel_rfl) (by kernel_rfl) (by kernel_rfl) (by kernel_rfl) (by kernel_rfl) hS0 (Or.inl ⟨by rfl, by (intro X hX; go_simp)⟩) ?_
        simp only [Act.put, List.setIfInBounds_toArray, List.set_cons_zero, List.set_cons_succ]
        refine Ht.takeS 10 (i := 8) ⟨some 18, _, _, _, _, _⟩ (.int .i64 ((b : Nat) : Int)) rfl (by kernel_rfl) (by kernel_rfl) (by kernel_rfl) (by kernel_rfl) (by kernel_rfl) hS0 (Or.inl ⟨by rfl, by (intro X hX; go_simp)⟩) ?_
        simp only [Act.put, List.setIfInBounds_toArray, List.set_cons_zero, List.set_cons_succ]
        refine Ht.takeS 10 (i := 9) ⟨some 19, _, _, _, _, _⟩ (.pointer (some ⟨g, b * 2, none⟩)) rfl (by kernel_rfl) (by kernel_rfl) (by kernel_rfl) (by kernel_rfl) (by kernel_rfl) hS0 (Or.inl ⟨by rfl, by (intro X hX; go_simp)⟩) ?_
        simp only [Act.put, List.setIfInBounds_toArray, List.set_cons_zero, List.set_cons_succ]
        refine Ht.takeS 10 (i := 10) ⟨some 20, _, _, _, _, _⟩ (.agg #[(.int .u8 p2), (.int .i64 q2)]) rfl (by kernel_rfl) (by kernel_rfl) (by kernel_rfl) (by kernel_rfl) (by kernel_rfl) hS0 (Or.inl ⟨by rfl, by (intro X hX; have := And.intro hX.2.2.1 hX.2.2.2; go_simp)⟩) ?_
        simp only [Act.put, List.setIfInBounds_toArray, List.set_cons_zero, List.set_cons_succ]
        refine Ht.stepS (i := 11) ⟨some 21, _, _, _, _, _⟩ rfl (by kernel_rfl) (by rfl) (fun K hK => ?_)
        refine Ht.enter 39 #[.agg #[(.int .u8 p1), (.int .i64 q1)], .agg #[(.int .u8 p2), (.int .i64 q2)]] (by have hen := fun args w => enters_of (P := Try.prog) Try.func39 (by kernel_rfl) rfl args w; go_simp) (HCA.out _) ?_
        rintro e w5 ⟨rfl, bb5⟩
        have hb5 : Below X.heap.size X w5 := (HX.out.1.drew).trans (bb5.mono HX.out.1.size)
        have HB5 := Lib.hid hb5
        clear hb5 bb5
        refine ⟨_, rfl, hK _ _ (fun hn => absurd (by decide) hn) (fun hnx => ?_)⟩
        clear hK K hnx
        simp only [Act.put, List.setIfInBounds_toArray, List.set_cons_zero, List.set_cons_succ]
        refine Ht.stepS (i := 12) ⟨some 22, _, _, _, _, _⟩ rfl (by kernel_rfl) (by rfl) (fun K hK => ?_)
        go_simp
        refine hK _ _ (fun hn => absurd (by decide) hn) (fun hnx => ?_)
        clear hK K hnx
        try simp only [Act.put, List.setIfInBounds_toArray, List.set_cons_zero, List.set_cons_succ]
        refine doneS (by kernel_rfl) ?_
        cases t with
        | true =>
          go_wp2_with fail
          exact ⟨⟨m + 1, rfl, HX.out.2.1, HB5.out, .inr ⟨m, by omega, rfl, fun j hj => by
            have ht := HX.out.2.2.2.2.1
            by_cases e : j = m
            · rw [e]; exact (swo Hp.tot_int).irrefl _
            · cases hc : ltp (el l j) (el l m) with
              | false => rfl
              | true =>
                have := (swo Hp.tot_int).trans _ _ _ hc ht.symm
                rw [HX.out.2.2.2.1 j (by omega)] at this
                cases this⟩⟩, by have := HX.out.2.1; simp [RowKit.intOf]; omega⟩
        | false =>
          go_wp2_with fail
          exact ⟨⟨m + 1, rfl, HX.out.2.1, HB5.out, .inr ⟨b, by have := HX.out.2.2.1; omega, rfl, fun j hj => by
            by_cases e : j = m
            · rw [e]; exact HX.out.2.2.2.2.1.symm
            · exact HX.out.2.2.2.1 j (by omega)⟩⟩, by have := HX.out.2.1; simp [RowKit.intOf]; omega⟩
    · have hltx : ((n : Nat) : Int) ≤ ((m : Nat) : Int) := by have := HN.out; omega
      have hme : m = l.length := by omega
      rcases hbest with ⟨h0, rfl⟩ | ⟨b, hbm, rfl, hall⟩
      · have HX := Lib.hid (And.intro hb (And.intro hme h0))
        clear hb hme h0 hlt hm
        go_wp2_with fail
        go_ret
        exact ⟨.inl ⟨List.eq_nil_of_length_eq_zero (by have := HX.out.2; omega), by simp⟩, HX.out.1⟩
      · have HX := Lib.hid (And.intro hb (And.intro hme (And.intro hbm hall)))
        clear hb hme hlt hm hbm hall
        go_wp2_with fail
        go_ret
        refine ⟨.inr ⟨b, by have h5 := HX.out.2.1; have h6 := HX.out.2.2.1; have h7 := HN.out; omega, ⟨el_mem (by have h5 := HX.out.2.1; have h6 := HX.out.2.2.1; have h7 := HN.out; omega), fun y hy => ?_⟩, by simp⟩, HX.out.1⟩
        obtain ⟨j, hj, rfl⟩ := mem_el hy
        exact HX.out.2.2.2 j (by rw [HX.out.2.1]; exact hj)
end Go.Proofs.Ytpeapbhhlfbolaa.HpA

