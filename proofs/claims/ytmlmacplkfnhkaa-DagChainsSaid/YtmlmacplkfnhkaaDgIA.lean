
/- graphs: walks: cost; how one begins -/
import Derived.Test.YtmlmacplkfnhkaaDgHA
namespace Go.Proofs.Ytmlmacplkfnhkaa.DgA
open Go.RowKit Go.Lib Hp Mv Dg Ht
set_option linter.unusedVariables false
set_option maxRecDepth 20000
attribute [local go_sem] Oper.semAt_some
section
variable {T O : Nat → Prop} {w : World} {wb fb : Nat} {rv : Value} {ns : List Id} {R : Id → Id → Bool} {fid : FuncId} {cb : Nat} {nx : Id → Nat} {F : Id → Bool} {n : Nat} {rest : List Id}
theorem big {m M c : Nat} (h : M = m + 1) (hc : M ≤ c) (hm : c ≤ maxLen) : IntKind.i64.wrap (((M : Nat) : Int) - 1) = ((m : Nat) : Int) ∧ wrap64 (((M : Nat) : Int) - 1) = ((m : Nat) : Int) ∧ ((m : Nat) : Int) < ((M : Nat) : Int) ∧ M ≤ 9223372036854775807 := by
  unfold maxLen at hm
  have h1 : M ≤ 9223372036854775807 := by omega
  refine ⟨?_, ?_, by omega, h1⟩
  · rw [Go.IntWalk.i64_in _ ⟨by omega, by omega⟩]; omega
  · unfold wrap64; omega
set_option maxHeartbeats 1000000 in
theorem cost_up (h : Wk T O w wb fb rv ns R 40 cb nx F n rest) (hne : rest ≠ []) : Calls Try.prog 36 #[.pointer (some ⟨wb, 0, none⟩)] w fun e w' => (∃ c, e = .returned (.int .i64 c)) ∧ Below w.heap.size w w' := by
  obtain ⟨i, x, hi⟩ := last_of hne
  obtain ⟨g, c, cur, rfl, hic, cx1, cx2, hx, _, _, _, _, hrow⟩ := h.top hi
  have hcm : c ≤ maxLen := by
    rcases h.row.2 with h1 | ⟨g', cap, cur', e, _, _, _, h4, _⟩
    · exact absurd h1.1 (by simp)
    · have e2 := (Value.slice.inj e).2.2; rw [e2]; exact h4
  obtain ⟨M, hM⟩ : ∃ M, M = i.length + 1 := ⟨_, rfl⟩
  obtain ⟨hw1, hw2, hlt, hMx⟩ := big hM (by omega) hcm
  have cc := h.cells
  unfold fnv at cc
  rw [← hM] at cc
  have hcall : ∀ X, Below w.heap.size w X → Calls Try.prog 40 #[ek x, .pointer (some ⟨cb, 0, none⟩)] X fun e w' => e = .returned (.map (some (nx x))) ∧ Below X.heap.size X w' := fun X hX => h.nxt.call X hX.size (fun k hk => hX.block k (h.nxt.size k hk)) x hx
  obtain ⟨n', hset⟩ := h.nxt.set x hx
  have hl1 : ∀ X, Below w.heap.size w X → ∀ ty, (Builtin.len_ #[49] ty #[.map (some fb)]).run Try.prog X = .ok (.int .i64 (n : Nat)) X := fun X hX ty => h.found.len kindS (hX.block fb h.found.lt) ty
  have hl2 : ∀ X, Below w.heap.size w X → ∀ ty, (Builtin.len_ #[49] ty #[.map (some (nx x))]).run Try.prog X = .ok (.int .i64 (n' : Nat)) X := fun X hX ty => hset.len kindS (hX.block _ hset.lt) ty
  clear h hi hrow hset hne hic hcm hx hM
  obtain ⟨m, hm⟩ : ∃ m, m = i.length := ⟨_, rfl⟩
  rw [← hm] at cx1 cx2 hw1 hw2 hlt
  clear hm
  unfold ek at hcall
  generalize kv x.1 = x1 at *
  generalize x.2 = x2 at *
  generalize nx x = nxx at *
  have hmix : Try.prog.follows .mixedOrders = true := by kernel_rfl
  go_enter Try.func36, Try.ntmps36
  go_wp2_with fail
  refine begin' 24 (fun Z => Below w.heap.size w Z) hmix ((Below.refl _ w).drew) (fun hS0 => ?_)
  refine Ht.takeD 8 (i := 0) ⟨some 3, _, _, _, _, _⟩ (.pointer (some ⟨wb, 0, none⟩)) rfl (by kernel_rfl) (by kernel_rfl) (by decide) (by kernel_rfl) (by kernel_rfl) (by kernel_rfl) hS0 (Or.inl ⟨by rfl, by (intro X hX; go_simp)⟩) ?_
  simp only [Act.put, List.setIfInBounds_toArray, List.set_cons_zero, List.set_cons_succ]
  refine Ht.takeD 8 (i := 1) ⟨some 4, _, _, _, _, _⟩ (.pointer (some ⟨wb, 0, none⟩)) rfl (by kernel_rfl) (by kernel_rfl) (by decide) (by kernel_rfl) (by kernel_rfl) (by kernel_rfl) hS0 (Or.inl ⟨by rfl, by (intro X hX; go_simp)⟩) ?_
  simp only [Act.put, List.setIfInBounds_toArray, List.set_cons_zero, List.set_cons_succ]
  refine Ht.takeD 8 (i := 2) ⟨some 5, _, _, _, _, _⟩ (.pointer (some ⟨wb, 1, none⟩)) rfl (by kernel_rfl) (by kernel_rfl) (by decide) (by kernel_rfl) (by kernel_rfl) (by kernel_rfl) hS0 (Or.inl ⟨by rfl, by (intro X hX; go_simp)⟩) ?_
  simp only [Act.put, List.setIfInBounds_toArray, List.set_cons_zero, List.set_cons_succ]
  refine Ht.takeD 8 (i := 3) ⟨some 6, _, _, _, _, _⟩ (.map (some fb)) rfl (by kernel_rfl) (by kernel_rfl) (by decide) (by kernel_rfl) (by kernel_rfl) (by kernel_rfl) hS0 (Or.inl ⟨by rfl, by (intro X hX; have := bc hX cc.2.1; go_simp)⟩) ?_
  simp only [Act.put, List.setIfInBounds_toArray, List.set_cons_zero, List.set_cons_succ]
  refine Ht.takeD 8 (i := 4) ⟨some 7, _, _, _, _, _⟩ (.int .i64 ((n : Nat) : Int)) rfl (by kernel_rfl) (by kernel_rfl) (by decide) (by kernel_rfl) (by kernel_rfl) (by kernel_rfl) hS0 (Or.inl ⟨by rfl, by (intro X hX; have := hl1 X hX; go_simp)⟩) ?_
  simp only [Act.put, List.setIfInBounds_toArray, List.set_cons_zero, List.set_cons_succ]
  refine Ht.takeD 8 (i := 5) ⟨some 8, _, _, _, _, _⟩ (.pointer (some ⟨wb, 0, none⟩)) rfl (by kernel_rfl) (by kernel_rfl) (by decide) (by kernel_rfl) (by kernel_rfl) (by kernel_rfl) hS0 (Or.inl ⟨by rfl, by (intro X hX; go_simp)⟩) ?_
  simp only [Act.put, List.setIfInBounds_toArray, List.set_cons_zero, List.set_cons_succ]
  refine Ht.takeD 8 (i := 6) ⟨some 9, _, _, _, _, _⟩ (.pointer (some ⟨wb, 0, none⟩)) rfl (by kernel_rfl) (by kernel_rfl) (by decide) (by kernel_rfl) (by kernel_rfl) (by kernel_rfl) hS0 (Or.inl ⟨by rfl, by (intro X hX; go_simp)⟩) ?_
  simp only [Act.put, List.setIfInBounds_toArray, List.set_cons_zero, List.set_cons_succ]
  refine Ht.takeD 8 (i := 7) ⟨some 10, _, _, _, _, _⟩ (.pointer (some ⟨wb, 0, none⟩)) rfl (by kernel_rfl) (by kernel_rfl) (by decide) (by kernel_rfl) (by kernel_rfl) (by kernel_rfl) hS0 (Or.inl ⟨by rfl, by (intro X hX; go_simp)⟩) ?_
  simp only [Act.put, List.setIfInBounds_toArray, List.set_cons_zero, List.set_cons_succ]
  refine Ht.takeD 8 (i := 8) ⟨some 11, _, _, _, _, _⟩ (.func (.func 40) #[] #[.pointer (some ⟨cb, 0, none⟩)]) rfl (by kernel_rfl) (by kernel_rfl) (by decide) (by kernel_rfl) (by kernel_rfl) (by kernel_rfl) hS0 (Or.inl ⟨by rfl, by (intro X hX; have := bc hX cc.1; go_simp)⟩) ?_
  simp only [Act.put, List.setIfInBounds_toArray, List.set_cons_zero, List.set_cons_succ]
  refine Ht.takeD 8 (i := 9) ⟨some 12, _, _, _, _, _⟩ (.pointer (some ⟨wb, 0, none⟩)) rfl (by kernel_rfl) (by kernel_rfl) (by decide) (by kernel_rfl) (by kernel_rfl) (by kernel_rfl) hS0 (Or.inl ⟨by rfl, by (intro X hX; go_simp)⟩) ?_
  simp only [Act.put, List.setIfInBounds_toArray, List.set_cons_zero, List.set_cons_succ]
  refine Ht.takeD 8 (i := 10) ⟨some 13, _, _, _, _, _⟩ (.pointer (some ⟨wb, 0, none⟩)) rfl (by kernel_rfl) (by kernel_rfl) (by decide) (by kernel_rfl) (by kernel_rfl) (by kernel_rfl) hS0 (Or.inl ⟨by rfl, by (intro X hX; go_simp)⟩) ?_
  simp only [Act.put, List.setIfInBounds_toArray, List.set_cons_zero, List.set_cons_succ]
  refine Ht.takeD 8 (i := 11) ⟨some 14, _, _, _, _, _⟩ (.pointer (some ⟨wb, 2, none⟩)) rfl (by kernel_rfl) (by kernel_rfl) (by decide) (by kernel_rfl) (by kernel_rfl) (by kernel_rfl) hS0 (Or.inl ⟨by rfl, by (intro X hX; go_simp)⟩) ?_
  simp only [Act.put, List.setIfInBounds_toArray, List.set_cons_zero, List.set_cons_succ]
  refine Ht.takeD 8 (i := 12) ⟨some 15, _, _, _, _, _⟩ (.slice (some ⟨g, 0, none⟩) M c) rfl (by kernel_rfl) (by kernel_rfl) (by decide) (by kernel_rfl) (by kernel_rfl) (by kernel_rfl) hS0 (Or.inl ⟨by rfl, by (intro X hX; have := bc hX cc.2.2; go_simp)⟩) ?_
  simp only [Act.put, List.setIfInBounds_toArray, List.set_cons_zero, List.set_cons_succ]
  refine Ht.takeD 8 (i := 13) ⟨some 16, _, _, _, _, _⟩ (.pointer (some ⟨wb, 0, none⟩)) rfl (by kernel_rfl) (by kernel_rfl) (by decide) (by kernel_rfl) (by kernel_rfl) (by kernel_rfl) hS0 (Or.inl ⟨by rfl, by (intro X hX; go_simp)⟩) ?_
  simp only [Act.put, List.setIfInBounds_toArray, List.set_cons_zero, List.set_cons_succ]
  refine Ht.takeD 8 (i := 14) ⟨some 17, _, _, _, _, _⟩ (.pointer (some ⟨wb, 0, none⟩)) rfl (by kernel_rfl) (by kernel_rfl) (by decide) (by kernel_rfl) (by kernel_rfl) (by kernel_rfl) hS0 (Or.inl ⟨by rfl, by (intro X hX; go_simp)⟩) ?_
  simp only [Act.put, List.setIfInBounds_toArray, List.set_cons_zero, List.set_cons_succ]
  refine Ht.takeD 8 (i := 15) ⟨some 18, _, _, _, _, _⟩ (.pointer (some ⟨wb, 2, none⟩)) rfl (by kernel_rfl) (by kernel_rfl) (by decide) (by kernel_rfl) (by kernel_rfl) (by kernel_rfl) hS0 (Or.inl ⟨by rfl, by (intro X hX; go_simp)⟩) ?_
  simp only [Act.put, List.setIfInBounds_toArray, List.set_cons_zero, List.set_cons_succ]
  refine Ht.takeD 8 (i := 16) ⟨some 19, _, _, _, _, _⟩ (.slice (some ⟨g, 0, none⟩) M c) rfl (by kernel_rfl) (by kernel_rfl) (by decide) (by kernel_rfl) (by kernel_rfl) (by kernel_rfl) hS0 (Or.inl ⟨by rfl, by (intro X hX; have := bc hX cc.2.2; go_simp)⟩) ?_
  simp only [Act.put, List.setIfInBounds_toArray, List.set_cons_zero, List.set_cons_succ]
  refine Ht.takeD 8 (i := 17) ⟨some 20, _, _, _, _, _⟩ (.int .i64 ((M : Nat) : Int)) rfl (by kernel_rfl) (by kernel_rfl) (by decide) (by kernel_rfl) (by kernel_rfl) (by kernel_rfl) hS0 (Or.inl ⟨by rfl, by (intro X hX; go_simp)⟩) ?_
  simp only [Act.put, List.setIfInBounds_toArray, List.set_cons_zero, List.set_cons_succ]
  refine Ht.takeD 8 (i := 18) ⟨some 21, _, _, _, _, _⟩ (.int .i64 ((m : Nat) : Int)) rfl (by kernel_rfl) (by kernel_rfl) (by decide) (by kernel_rfl) (by kernel_rfl) (by kernel_rfl) hS0 (Or.inl ⟨by rfl, by (intro X hX; go_simp)⟩) ?_
  simp only [Act.put, List.setIfInBounds_toArray, List.set_cons_zero, List.set_cons_succ]
  refine Ht.takeD 8 (i := 19) ⟨some 22, _, _, _, _, _⟩ (.pointer (some ⟨g, m * 2, none⟩)) rfl (by kernel_rfl) (by kernel_rfl) (by decide) (by kernel_rfl) (by kernel_rfl) (by kernel_rfl) hS0 (Or.inl ⟨by rfl, by (intro X hX; go_simp)⟩) ?_
  simp only [Act.put, List.setIfInBounds_toArray, List.set_cons_zero, List.set_cons_succ]
  refine Ht.takeD 8 (i := 20) ⟨some 23, _, _, _, _, _⟩ (.agg #[x1, .bool x2]) rfl (by kernel_rfl) (by kernel_rfl) (by decide) (by kernel_rfl) (by kernel_rfl) (by kernel_rfl) hS0 (Or.inl ⟨by rfl, by (intro X hX; have := And.intro (bc hX cx1) (bc hX cx2); go_simp)⟩) ?_
  simp only [Act.put, List.setIfInBounds_toArray, List.set_cons_zero, List.set_cons_succ]
  refine Ht.step (i := 21) ⟨some 24, _, _, _, _, _⟩ rfl (by kernel_rfl) (by rfl) (fun K hK => ?_)
  refine Ht.enter 40 #[.agg #[x1, .bool x2], .pointer (some ⟨cb, 0, none⟩)] (by have hen := fun args w => enters_of (P := Try.prog) Try.func40 (by kernel_rfl) rfl args w; go_simp) (hcall _ hS0) ?_
  rintro e X1 ⟨rfl, hx1⟩
  have b1 : Below w.heap.size w X1 := hS0.trans (hx1.mono hS0.size)
  refine ⟨_, rfl, hK _ _ (fun hn => b1) (fun hnx => ?_)⟩
  clear hK K hnx
  try simp only [Act.put, List.setIfInBounds_toArray, List.set_cons_zero, List.set_cons_succ]
  refine Ht.takeD 8 (i := 22) ⟨some 25, _, _, _, _, _⟩ (.int .i64 ((n' : Nat) : Int)) rfl (by kernel_rfl) (by kernel_rfl) (by decide) (by kernel_rfl) (by kernel_rfl) (by kernel_rfl) b1 (Or.inl ⟨by rfl, by (intro X hX; have := hl2 X hX; go_simp)⟩) ?_
  simp only [Act.put, List.setIfInBounds_toArray, List.set_cons_zero, List.set_cons_succ]
  refine Ht.takeD 8 (i := 23) ⟨some 26, _, _, _, _, _⟩ (.int .i64 (IntKind.i64.wrap (((n : Nat) : Int) + ((n' : Nat) : Int)))) rfl (by kernel_rfl) (by kernel_rfl) (by decide) (by kernel_rfl) (by kernel_rfl) (by kernel_rfl) b1 (Or.inl ⟨by rfl, by (intro X hX; go_simp)⟩) ?_
  simp only [Act.put, List.setIfInBounds_toArray, List.set_cons_zero, List.set_cons_succ]
  refine Ht.step (i := 24) ⟨some 2, _, _, _, _, _⟩ rfl (by kernel_rfl) (by rfl) (fun K hK => ?_)
  go_simp
  refine hK _ _ (fun hn => absurd rfl hn) (fun hnx => ?_)
  clear hK K hnx
  try simp only [Act.put, List.setIfInBounds_toArray, List.set_cons_zero, List.set_cons_succ]
  refine done (by kernel_rfl) ?_
  go_wp2_with fail
  go_ret
  exact ⟨⟨_, rfl⟩, b1⟩
set_option maxHeartbeats 1000000 in
theorem cost_down (h : Wk T O w wb fb rv ns R 50 cb nx F n rest) (hne : rest ≠ []) : Calls Try.prog 36 #[.pointer (some ⟨wb, 0, none⟩)] w fun e w' => (∃ c, e = .returned (.int .i64 c)) ∧ Below w.heap.size w w' := by
  obtain ⟨i, x, hi⟩ := last_of hne
  obtain ⟨g, c, cur, rfl, hic, cx1, cx2, hx, _, _, _, _, hrow⟩ := h.top hi
  have hcm : c ≤ maxLen := by
    rcases h.row.2 with h1 | ⟨g', cap, cur', e, _, _, _, h4, _⟩
    · exact absurd h1.1 (by simp)
    · have e2 := (Value.slice.inj e).2.2; rw [e2]; exact h4
  obtain ⟨M, hM⟩ : ∃ M, M = i.length + 1 := ⟨_, rfl⟩
  obtain ⟨hw1, hw2, hlt, hMx⟩ := big hM (by omega) hcm
  have cc := h.cells
  unfold fnv at cc
  rw [← hM] at cc
  have hcall : ∀ X, Below w.heap.size w X → Calls Try.prog 50 #[ek x, .pointer (some ⟨cb, 0, none⟩)] X fun e w' => e = .returned (.map (some (nx x))) ∧ Below X.heap.size X w' := fun X hX => h.nxt.call X hX.size (fun k hk => hX.block k (h.nxt.size k hk)) x hx
  obtain ⟨n', hset⟩ := h.nxt.set x hx
  have hl1 : ∀ X, Below w.heap.size w X → ∀ ty, (Builtin.len_ #[49] ty #[.map (some fb)]).run Try.prog X = .ok (.int .i64 (n : Nat)) X := fun X hX ty => h.found.len kindS (hX.block fb h.found.lt) ty
  have hl2 : ∀ X, Below w.heap.size w X → ∀ ty, (Builtin.len_ #[49] ty #[.map (some (nx x))]).run Try.prog X = .ok (.int .i64 (n' : Nat)) X := fun X hX ty => hset.len kindS (hX.block _ hset.lt) ty
  clear h hi hrow hset hne hic hcm hx hM
  obtain ⟨m, hm⟩ : ∃ m, m = i.length := ⟨_, rfl⟩
  rw [← hm] at cx1 cx2 hw1 hw2 hlt
  clear hm
  unfold ek at hcall
  generalize kv x.1 = x1 at *
  generalize x.2 = x2 at *
  generalize nx x = nxx at *
  have hmix : Try.prog.follows .mixedOrders = true := by kernel_rfl
  go_enter Try.func36, Try.ntmps36
  go_wp2_with fail
  refine begin' 24 (fun Z => Below w.heap.size w Z) hmix ((Below.refl _ w).drew) (fun hS0 => ?_)
  refine Ht.takeD 8 (i := 0) ⟨some 3, _, _, _, _, _⟩ (.pointer (some ⟨wb, 0, none⟩)) rfl (by kernel_rfl) (by kernel_rfl) (by decide) (by kernel_rfl) (by kernel_rfl) (by kernel_rfl) hS0 (Or.inl ⟨by rfl, by (intro X hX; go_simp)⟩) ?_
  simp only [Act.put, List.setIfInBounds_toArray, List.set_cons_zero, List.set_cons_succ]
  refine Ht.takeD 8 (i := 1) ⟨some 4, _, _, _, _, _⟩ (.pointer (some ⟨wb, 0, none⟩)) rfl (by kernel_rfl) (by kernel_rfl) (by decide) (by kernel_rfl) (by kernel_rfl) (by kernel_rfl) hS0 (Or.inl ⟨by rfl, by (intro X hX; go_simp)⟩) ?_
  simp only [Act.put, List.setIfInBounds_toArray, List.set_cons_zero, List.set_cons_succ]
  refine Ht.takeD 8 (i := 2) ⟨some 5, _, _, _, _, _⟩ (.pointer (some ⟨wb, 1, none⟩)) rfl (by kernel_rfl) (by kernel_rfl) (by decide) (by kernel_rfl) (by kernel_rfl) (by kernel_rfl) hS0 (Or.inl ⟨by rfl, by (intro X hX; go_simp)⟩) ?_
  simp only [Act.put, List.setIfInBounds_toArray, List.set_cons_zero, List.set_cons_succ]
  refine Ht.takeD 8 (i := 3) ⟨some 6, _, _, _, _, _⟩ (.map (some fb)) rfl (by kernel_rfl) (by kernel_rfl) (by decide) (by kernel_rfl) (by kernel_rfl) (by kernel_rfl) hS0 (Or.inl ⟨by rfl, by (intro X hX; have := bc hX cc.2.1; go_simp)⟩) ?_
  simp only [Act.put, List.setIfInBounds_toArray, List.set_cons_zero, List.set_cons_succ]
  refine Ht.takeD 8 (i := 4) ⟨some 7, _, _, _, _, _⟩ (.int .i64 ((n : Nat) : Int)) rfl (by kernel_rfl) (by kernel_rfl) (by decide) (by kernel_rfl) (by kernel_rfl) (by kernel_rfl) hS0 (Or.inl ⟨by rfl, by (intro X hX; have := hl1 X hX; go_simp)⟩) ?_
  simp only [Act.put, List.setIfInBounds_toArray, List.set_cons_zero, List.set_cons_succ]
  refine Ht.takeD 8 (i := 5) ⟨some 8, _, _, _, _, _⟩ (.pointer (some ⟨wb, 0, none⟩)) rfl (by kernel_rfl) (by kernel_rfl) (by decide) (by kernel_rfl) (by kernel_rfl) (by kernel_rfl) hS0 (Or.inl ⟨by rfl, by (intro X hX; go_simp)⟩) ?_
  simp only [Act.put, List.setIfInBounds_toArray, List.set_cons_zero, List.set_cons_succ]
  refine Ht.takeD 8 (i := 6) ⟨some 9, _, _, _, _, _⟩ (.pointer (some ⟨wb, 0, none⟩)) rfl (by kernel_rfl) (by kernel_rfl) (by decide) (by kernel_rfl) (by kernel_rfl) (by kernel_rfl) hS0 (Or.inl ⟨by rfl, by (intro X hX; go_simp)⟩) ?_
  simp only [Act.put, List.setIfInBounds_toArray, List.set_cons_zero, List.set_cons_succ]
  refine Ht.takeD 8 (i := 7) ⟨some 10, _, _, _, _, _⟩ (.pointer (some ⟨wb, 0, none⟩)) rfl (by kernel_rfl) (by kernel_rfl) (by decide) (by kernel_rfl) (by kernel_rfl) (by kernel_rfl) hS0 (Or.inl ⟨by rfl, by (intro X hX; go_simp)⟩) ?_
  simp only [Act.put, List.setIfInBounds_toArray, List.set_cons_zero, List.set_cons_succ]
  refine Ht.takeD 8 (i := 8) ⟨some 11, _, _, _, _, _⟩ (.func (.func 50) #[] #[.pointer (some ⟨cb, 0, none⟩)]) rfl (by kernel_rfl) (by kernel_rfl) (by decide) (by kernel_rfl) (by kernel_rfl) (by kernel_rfl) hS0 (Or.inl ⟨by rfl, by (intro X hX; have := bc hX cc.1; go_simp)⟩) ?_
  simp only [Act.put, List.setIfInBounds_toArray, List.set_cons_zero, List.set_cons_succ]
  refine Ht.takeD 8 (i := 9) ⟨some 12, _, _, _, _, _⟩ (.pointer (some ⟨wb, 0, none⟩)) rfl (by kernel_rfl) (by kernel_rfl) (by decide) (by kernel_rfl) (by kernel_rfl) (by kernel_rfl) hS0 (Or.inl ⟨by rfl, by (intro X hX; go_simp)⟩) ?_
  simp only [Act.put, List.setIfInBounds_toArray, List.set_cons_zero, List.set_cons_succ]
  refine Ht.takeD 8 (i := 10) ⟨some 13, _, _, _, _, _⟩ (.pointer (some ⟨wb, 0, none⟩)) rfl (by kernel_rfl) (by kernel_rfl) (by decide) (by kernel_rfl) (by kernel_rfl) (by kernel_rfl) hS0 (Or.inl ⟨by rfl, by (intro X hX; go_simp)⟩) ?_
  simp only [Act.put, List.setIfInBounds_toArray, List.set_cons_zero, List.set_cons_succ]
  refine Ht.takeD 8 (i := 11) ⟨some 14, _, _, _, _, _⟩ (.pointer (some ⟨wb, 2, none⟩)) rfl (by kernel_rfl) (by kernel_rfl) (by decide) (by kernel_rfl) (by kernel_rfl) (by kernel_rfl) hS0 (Or.inl ⟨by rfl, by (intro X hX; go_simp)⟩) ?_
  simp only [Act.put, List.setIfInBounds_toArray, List.set_cons_zero, List.set_cons_succ]
  refine Ht.takeD 8 (i := 12) ⟨some 15, _, _, _, _, _⟩ (.slice (some ⟨g, 0, none⟩) M c) rfl (by kernel_rfl) (by kernel_rfl) (by decide) (by kernel_rfl) (by kernel_rfl) (by kernel_rfl) hS0 (Or.inl ⟨by rfl, by (intro X hX; have := bc hX cc.2.2; go_simp)⟩) ?_
  simp only [Act.put, List.setIfInBounds_toArray, List.set_cons_zero, List.set_cons_succ]
  refine Ht.takeD 8 (i := 13) ⟨some 16, _, _, _, _, _⟩ (.pointer (some ⟨wb, 0, none⟩)) rfl (by kernel_rfl) (by kernel_rfl) (by decide) (by kernel_rfl) (by kernel_rfl) (by kernel_rfl) hS0 (Or.inl ⟨by rfl, by (intro X hX; go_simp)⟩) ?_
  simp only [Act.put, List.setIfInBounds_toArray, List.set_cons_zero, List.set_cons_succ]
  refine Ht.takeD 8 (i := 14) ⟨some 17, _, _, _, _, _⟩ (.pointer (some ⟨wb, 0, none⟩)) rfl (by kernel_rfl) (by kernel_rfl) (by decide) (by kernel_rfl) (by kernel_rfl) (by kernel_rfl) hS0 (Or.inl ⟨by rfl, by (intro X hX; go_simp)⟩) ?_
  simp only [Act.put, List.setIfInBounds_toArray, List.set_cons_zero, List.set_cons_succ]
  refine Ht.takeD 8 (i := 15) ⟨some 18, _, _, _, _, _⟩ (.pointer (some ⟨wb, 2, none⟩)) rfl (by kernel_rfl) (by kernel_rfl) (by decide) (by kernel_rfl) (by kernel_rfl) (by kernel_rfl) hS0 (Or.inl ⟨by rfl, by (intro X hX; go_simp)⟩) ?_
  simp only [Act.put, List.setIfInBounds_toArray, List.set_cons_zero, List.set_cons_succ]
  refine Ht.takeD 8 (i := 16) ⟨some 19, _, _, _, _, _⟩ (.slice (some ⟨g, 0, none⟩) M c) rfl (by kernel_rfl) (by kernel_rfl) (by decide) (by kernel_rfl) (by kernel_rfl) (by kernel_rfl) hS0 (Or.inl ⟨by rfl, by (intro X hX; have := bc hX cc.2.2; go_simp)⟩) ?_
  simp only [Act.put, List.setIfInBounds_toArray, List.set_cons_zero, List.set_cons_succ]
  refine Ht.takeD 8 (i := 17) ⟨some 20, _, _, _, _, _⟩ (.int .i64 ((M : Nat) : Int)) rfl (by kernel_rfl) (by kernel_rfl) (by decide) (by kernel_rfl) (by kernel_rfl) (by kernel_rfl) hS0 (Or.inl ⟨by rfl, by (intro X hX; go_simp)⟩) ?_
  simp only [Act.put, List.setIfInBounds_toArray, List.set_cons_zero, List.set_cons_succ]
  refine Ht.takeD 8 (i := 18) ⟨some 21, _, _, _, _, _⟩ (.int .i64 ((m : Nat) : Int)) rfl (by kernel_rfl) (by kernel_rfl) (by decide) (by kernel_rfl) (by kernel_rfl) (by kernel_rfl) hS0 (Or.inl ⟨by rfl, by (intro X hX; go_simp)⟩) ?_
  simp only [Act.put, List.setIfInBounds_toArray, List.set_cons_zero, List.set_cons_succ]
  refine Ht.takeD 8 (i := 19) ⟨some 22, _, _, _, _, _⟩ (.pointer (some ⟨g, m * 2, none⟩)) rfl (by kernel_rfl) (by kernel_rfl) (by decide) (by kernel_rfl) (by kernel_rfl) (by kernel_rfl) hS0 (Or.inl ⟨by rfl, by (intro X hX; go_simp)⟩) ?_
  simp only [Act.put, List.setIfInBounds_toArray, List.set_cons_zero, List.set_cons_succ]
  refine Ht.takeD 8 (i := 20) ⟨some 23, _, _, _, _, _⟩ (.agg #[x1, .bool x2]) rfl (by kernel_rfl) (by kernel_rfl) (by decide) (by kernel_rfl) (by kernel_rfl) (by kernel_rfl) hS0 (Or.inl ⟨by rfl, by (intro X hX; have := And.intro (bc hX cx1) (bc hX cx2); go_simp)⟩) ?_
  simp only [Act.put, List.setIfInBounds_toArray, List.set_cons_zero, List.set_cons_succ]
  refine Ht.step (i := 21) ⟨some 24, _, _, _, _, _⟩ rfl (by kernel_rfl) (by rfl) (fun K hK => ?_)
  refine Ht.enter 50 #[.agg #[x1, .bool x2], .pointer (some ⟨cb, 0, none⟩)] (by have hen := fun args w => enters_of (P := Try.prog) Try.func50 (by kernel_rfl) rfl args w; go_simp) (hcall _ hS0) ?_
  rintro e X1 ⟨rfl, hx1⟩
  have b1 : Below w.heap.size w X1 := hS0.trans (hx1.mono hS0.size)
  refine ⟨_, rfl, hK _ _ (fun hn => b1) (fun hnx => ?_)⟩
  clear hK K hnx
  try simp only [Act.put, List.setIfInBounds_toArray, List.set_cons_zero, List.set_cons_succ]
  refine Ht.takeD 8 (i := 22) ⟨some 25, _, _, _, _, _⟩ (.int .i64 ((n' : Nat) : Int)) rfl (by kernel_rfl) (by kernel_rfl) (by decide) (by kernel_rfl) (by kernel_rfl) (by kernel_rfl) b1 (Or.inl ⟨by rfl, by (intro X hX; have := hl2 X hX; go_simp)⟩) ?_
  simp only [Act.put, List.setIfInBounds_toArray, List.set_cons_zero, List.set_cons_succ]
  refine Ht.takeD 8 (i := 23) ⟨some 26, _, _, _, _, _⟩ (.int .i64 (IntKind.i64.wrap (((n : Nat) : Int) + ((n' : Nat) : Int)))) rfl (by kernel_rfl) (by kernel_rfl) (by decide) (by kernel_rfl) (by kernel_rfl) (by kernel_rfl) b1 (Or.inl ⟨by rfl, by (intro X hX; go_simp)⟩) ?_
  simp only [Act.put, List.setIfInBounds_toArray, List.set_cons_zero, List.set_cons_succ]
  refine Ht.step (i := 24) ⟨some 2, _, _, _, _, _⟩ rfl (by kernel_rfl) (by rfl) (fun K hK => ?_)
  go_simp
  refine hK _ _ (fun hn => absurd rfl hn) (fun hnx => ?_)
  clear hK K hnx
  try simp only [Act.put, List.setIfInBounds_toArray, List.set_cons_zero, List.set_cons_succ]
  refine done (by kernel_rfl) ?_
  go_wp2_with fail
  go_ret
  exact ⟨⟨_, rfl⟩, b1⟩
theorem cost_any (h : Wk T O w wb fb rv ns R fid cb nx F n rest) (hne : rest ≠ []) : Calls Try.prog 36 #[.pointer (some ⟨wb, 0, none⟩)] w fun e w' => (∃ c, e = .returned (.int .i64 c)) ∧ Below w.heap.size w w' := by
  rcases h.nxt.fn with rfl | rfl
  · exact cost_up h hne
  · exact cost_down h hne
end
theorem five (w : World) (a b c d e : Obj) : let W := ((((w.alloc a).alloc b).alloc c).alloc d).alloc e
    W.heap[w.heap.size]? = some a ∧ W.heap[w.heap.size + 1 + 1]? = some c ∧ W.heap[w.heap.size + 1 + 1 + 1]? = some d ∧ W.heap[w.heap.size + 1 + 1 + 1 + 1]? = some e ∧ Below w.heap.size w W ∧ W.heap.size = w.heap.size + 1 + 1 + 1 + 1 + 1 := by
  intro W
  have h1 := MapKept.heap_alloc w a
  have h2 := MapKept.heap_alloc (w.alloc a) b
  have h3 := MapKept.heap_alloc ((w.alloc a).alloc b) c
  have h4 := MapKept.heap_alloc (((w.alloc a).alloc b).alloc c) d
  have h5 := MapKept.heap_alloc ((((w.alloc a).alloc b).alloc c).alloc d) e
  have s1 : (w.alloc a).heap.size = w.heap.size + 1 := by simp
  have s2 : ((w.alloc a).alloc b).heap.size = w.heap.size + 1 + 1 := by simp
  have s3 : (((w.alloc a).alloc b).alloc c).heap.size = w.heap.size + 1 + 1 + 1 := by simp
  have s4 : ((((w.alloc a).alloc b).alloc c).alloc d).heap.size = w.heap.size + 1 + 1 + 1 + 1 := by simp
  rw [s1] at h2
  rw [s2] at h3
  rw [s3] at h4
  rw [s4] at h5
  exact ⟨(h5.2 _ (by omega)).trans ((h4.2 _ (by omega)).trans ((h3.2 _ (by omega)).trans ((h2.2 _ (by omega)).trans h1.1))), (h5.2 _ (by omega)).trans ((h4.2 _ (by omega)).trans h3.1), (h5.2 _ (by omega)).trans h4.1, h5.1,
    (((((Below.refl _ w).alloc (Nat.le_refl _) a).alloc (by rw [s1]; omega) b).alloc (by rw [s2]; omega) c).alloc (by rw [s3]; omega) d).alloc (by rw [s4]; omega) e, by show (World.alloc _ _).heap.size = _; simp⟩
section
variable {S : Nat → Prop} {w : World} {gb : Nat} {mv : Option Nat} {ns : List Id} {E : Id → Id → Bool} {nb ob ub : Id → Nat}
/-- what a new walk has, and leaves -/
structure New (S : Nat → Prop) (w w' : World) (T O : Nat → Prop) : Prop where
  below : Below w.heap.size w w'
  read : ∀ k, T k → S k ∨ w.heap.size ≤ k
  own : ∀ k, O k → w.heap.size ≤ k
/-- a walk that was just made -/
def Made (S : Nat → Prop) (w w' : World) (v : Value) (ns : List Id) (R : Id → Id → Bool) (fid : FuncId) (nx : Id → Nat) (x : Id) : Prop := ∃ wb fb rv cb T O, v = .pointer (some ⟨wb, 0, none⟩) ∧ Wk T O w' wb fb rv ns R fid cb nx (fun _ => false) 0 [x] ∧ New S w w' T O
theorem up_any (q : Gq S w gb mv ns E nb ob ub) (x : Id) (hx : x ∈ ns) : Calls Try.prog 22 #[.pointer (some ⟨gb, 0, none⟩), ek x] w fun e w' => ∃ v, e = .returned v ∧ Made S w w' v ns (fun a b => E b a) 40 ub x := by
  have HQ := Lib.hid (And.intro q hx)
  obtain ⟨h1, h2, h3, h4, h5, h6⟩ := five w (.cells #[.pointer (some ⟨gb, 0, none⟩)] 23) (.cells #[kv x.1, .bool x.2] 44) (.map #[] 0) (.cells #[kv x.1, .bool x.2] 44) (.cells #[fnv 40 w.heap.size, .map (some (w.heap.size + 1 + 1)), .slice (some ⟨w.heap.size + 1 + 1 + 1, 0, none⟩) 1 1] 90)
  have H5 := Lib.hid (And.intro h1 (And.intro h2 (And.intro h3 (And.intro h4 (And.intro h5 h6)))))
  clear h1 h2 h3 h4 h5 h6 q hx
  have hmm := @run_makeMap Try.prog
  unfold ek
  go_enter Try.func22, Try.ntmps22
  go_wp2_with fail
  go_ret
  unfold fnv at H5
  obtain ⟨h1, h2, h3, h4, h5, h6⟩ := H5.out
  have q2 := HQ.out.1.below h5 (Nat.le_refl _)
  have hN := q2.up (cb := w.heap.size) (by rw [cell_of_row _ _ _ _ _ _ h1]; rfl)
  refine ⟨_, rfl, w.heap.size + 1 + 1 + 1 + 1, w.heap.size + 1 + 1, .slice (some ⟨w.heap.size + 1 + 1 + 1, 0, none⟩) 1 1, w.heap.size, _, (fun k => k = w.heap.size + 1 + 1 ∨ k = w.heap.size + 1 + 1 + 1 ∨ k = w.heap.size + 1 + 1 + 1 + 1), by simp, ⟨hN, h4, (empty_map h2).congr fun k _ => by unfold sf; simp, ?_, by simp, by simp; exact HQ.out.2, by simp, by simp, by simp, ?_, ?_, ?_⟩, h5, ?_, ?_⟩
  · exact ⟨by simp [rc], .inr ⟨_, 1, #[kv x.1, .bool x.2], rfl, Nat.zero_le _, h3, Nat.le_refl _, by unfold maxLen; omega, rfl, by simp [rc]⟩⟩
  · intro b hb; cases hb; simp
  · rintro k (hk | rfl) e
    · have := HQ.out.1.size k hk; omega
    · omega
  · intro k hk; rw [h6]; omega
  · exact fun k hk => hk.imp_right fun e => by omega
  · intro k hk; omega
theorem down_any (q : Gq S w gb mv ns E nb ob ub) (x : Id) (hx : x ∈ ns) : Calls Try.prog 34 #[.pointer (some ⟨gb, 0, none⟩), ek x] w fun e w' => ∃ v, e = .returned v ∧ Made S w w' v ns (E) 50 ob x := by
  have HQ := Lib.hid (And.intro q hx)
  obtain ⟨h1, h2, h3, h4, h5, h6⟩ := five w (.cells #[.pointer (some ⟨gb, 0, none⟩)] 23) (.cells #[kv x.1, .bool x.2] 44) (.map #[] 0) (.cells #[kv x.1, .bool x.2] 44) (.cells #[fnv 50 w.heap.size, .map (some (w.heap.size + 1 + 1)), .slice (some ⟨w.heap.size + 1 + 1 + 1, 0, none⟩) 1 1] 90)
  have H5 := Lib.hid (And.intro h1 (And.intro h2 (And.intro h3 (And.intro h4 (And.intro h5 h6)))))
  clear h1 h2 h3 h4 h5 h6 q hx
  have hmm := @run_makeMap Try.prog
  unfold ek
  go_enter Try.func34, Try.ntmps34
  go_wp2_with fail
  go_ret
  unfold fnv at H5
  obtain ⟨h1, h2, h3, h4, h5, h6⟩ := H5.out
  have q2 := HQ.out.1.below h5 (Nat.le_refl _)
  have hN := q2.down (cb := w.heap.size) (by rw [cell_of_row _ _ _ _ _ _ h1]; rfl)
  refine ⟨_, rfl, w.heap.size + 1 + 1 + 1 + 1, w.heap.size + 1 + 1, .slice (some ⟨w.heap.size + 1 + 1 + 1, 0, none⟩) 1 1, w.heap.size, _, (fun k => k = w.heap.size + 1 + 1 ∨ k = w.heap.size + 1 + 1 + 1 ∨ k = w.heap.size + 1 + 1 + 1 + 1), by simp, ⟨hN, h4, (empty_map h2).congr fun k _ => by unfold sf; simp, ?_, by simp, by simp; exact HQ.out.2, by simp, by simp, by simp, ?_, ?_, ?_⟩, h5, ?_, ?_⟩
  · exact ⟨by simp [rc], .inr ⟨_, 1, #[kv x.1, .bool x.2], rfl, Nat.zero_le _, h3, Nat.le_refl _, by unfold maxLen; omega, rfl, by simp [rc]⟩⟩
  · intro b hb; cases hb; simp
  · rintro k (hk | rfl) e
    · have := HQ.out.1.size k hk; omega
    · omega
  · intro k hk; rw [h6]; omega
  · exact fun k hk => hk.imp_right fun e => by omega
  · intro k hk; omega
end
end Go.Proofs.Ytmlmacplkfnhkaa.DgA

