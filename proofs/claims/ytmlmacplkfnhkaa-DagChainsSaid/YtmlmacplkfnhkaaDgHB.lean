
/- graphs: walks: has, cost -/
import Derived.Test.YtmlmacplkfnhkaaDgGB
namespace Go.Proofs.Ytmlmacplkfnhkaa.DgB
open Go.RowKit Go.Lib Hp Mv Dg Ht
set_option linter.unusedVariables false
set_option maxRecDepth 20000
attribute [local go_sem] Oper.semAt_some
theorem bc {V X : World} (h : Below V.heap.size V X) {a : Addr} {v : Value} (c : V.cell? a = some v) : X.cell? a = some v := (h.cell (World.block_lt_of_cell? _ _ c)).trans c
theorem sf_getD (p : Id → Bool) (x : Id) : (sf p x).getD unit = unit := by unfold sf; split <;> rfl
section
variable {T O : Nat → Prop} {w : World} {wb fb : Nat} {rv : Value} {ns : List Id} {R : Id → Id → Bool} {fid : FuncId} {cb : Nat} {nx : Id → Nat} {F : Id → Bool} {n : Nat} {rest : List Id}
set_option maxHeartbeats 1000000 in
theorem whas_any (h : Wk T O w wb fb rv ns R fid cb nx F n rest) (x : Id) (hx : wk x) : Calls Try.prog 45 #[.pointer (some ⟨wb, 0, none⟩), ek x] w fun e w' => e = .returned (.bool (F x)) ∧ Below w.heap.size w w' := by
  obtain ⟨V, hV⟩ : ∃ V, V = w.alloc (.cells #[kv x.1, .bool x.2] 67) := ⟨_, rfl⟩
  have hb : Below w.heap.size w V := by rw [hV]; exact (Below.refl _ w).alloc (Nat.le_refl _) _
  have h2 := h.below hb (Nat.le_refl _)
  have c1 := h2.cells.2.1
  have hl : ∀ X, Below V.heap.size V X → (Instr.lookup 72 (.map (some fb)) (.agg #[kv x.1, .bool x.2]) true).run Try.prog X = .ok (.tuple #[.agg #[], .bool (F x)]) X := fun X hX => by
    have := h2.found.look kindS (Y := X) (hX.block fb h2.found.lt) hx
    rw [sf_getD, sf_some] at this
    exact this
  have ci := cell_id w x
  rw [← hV] at ci
  have HB := Lib.hid hb
  clear h2 h hb
  unfold ek
  generalize kv x.1 = k1 at *
  generalize x.2 = k2 at *
  generalize F x = fx at *
  have hmix : Try.prog.follows .mixedOrders = true := by kernel_rfl
  go_enter Try.func45, Try.ntmps45
  go_wp2_with fail
  rw [← hV]
  clear hV
  refine begin' 11 (fun Z => Below V.heap.size V Z) hmix ((Below.refl _ V).drew) (fun hS0 => ?_)
  refine Ht.takeD 8 (i := 0) ⟨some 8, _, _, _, _, _⟩ (.pointer (some ⟨wb, 0, none⟩)) rfl (by kernel_rfl) (by kernel_rfl) (by decide) (by kernel_rfl) (by kernel_rfl) (by kernel_rfl) hS0 (Or.inl ⟨by rfl, by (intro X hX; go_simp)⟩) ?_
  simp only [Act.put, List.setIfInBounds_toArray, List.set_cons_zero, List.set_cons_succ]
  refine Ht.takeD 8 (i := 1) ⟨some 9, _, _, _, _, _⟩ (.pointer (some ⟨wb, 0, none⟩)) rfl (by kernel_rfl) (by kernel_rfl) (by decide) (by kernel_rfl) (by kernel_rfl) (by kernel_rfl) hS0 (Or.inl ⟨by rfl, by (intro X hX; go_simp)⟩) ?_
  simp only [Act.put, List.setIfInBounds_toArray, List.set_cons_zero, List.set_cons_succ]
  refine Ht.takeD 8 (i := 2) ⟨some 10, _, _, _, _, _⟩ (.pointer (some ⟨wb, 1, none⟩)) rfl (by kernel_rfl) (by kernel_rfl) (by decide) (by kernel_rfl) (by kernel_rfl) (by kernel_rfl) hS0 (Or.inl ⟨by rfl, by (intro X hX; go_simp)⟩) ?_
  simp only [Act.put, List.setIfInBounds_toArray, List.set_cons_zero, List.set_cons_succ]
  refine Ht.takeD 8 (i := 3) ⟨some 11, _, _, _, _, _⟩ (.map (some fb)) rfl (by kernel_rfl) (by kernel_rfl) (by decide) (by kernel_rfl) (by kernel_rfl) (by kernel_rfl) hS0 (Or.inl ⟨by rfl, by (intro X hX; have := bc hX c1; go_simp)⟩) ?_
  simp only [Act.put, List.setIfInBounds_toArray, List.set_cons_zero, List.set_cons_succ]
  refine Ht.takeD 8 (i := 4) ⟨some 12, _, _, _, _, _⟩ (.agg #[k1, .bool k2]) rfl (by kernel_rfl) (by kernel_rfl) (by decide) (by kernel_rfl) (by kernel_rfl) (by kernel_rfl) hS0 (Or.inl ⟨by rfl, by (intro X hX; have := And.intro (bc hX ci.1) (bc hX ci.2); go_simp)⟩) ?_
  simp only [Act.put, List.setIfInBounds_toArray, List.set_cons_zero, List.set_cons_succ]
  refine Ht.takeD 8 (i := 5) ⟨some 13, _, _, _, _, _⟩ (.tuple #[.agg #[], .bool fx]) rfl (by kernel_rfl) (by kernel_rfl) (by decide) (by kernel_rfl) (by kernel_rfl) (by kernel_rfl) hS0 (Or.inl ⟨by rfl, by (intro X hX; have := hl X hX; go_simp)⟩) ?_
  simp only [Act.put, List.setIfInBounds_toArray, List.set_cons_zero, List.set_cons_succ]
  refine Ht.takeD 8 (i := 6) ⟨some 7, _, _, _, _, _⟩ (.tuple #[.agg #[], .bool fx]) rfl (by kernel_rfl) (by kernel_rfl) (by decide) (by kernel_rfl) (by kernel_rfl) (by kernel_rfl) hS0 (Or.inl ⟨by rfl, by (intro X hX; go_simp)⟩) ?_
  simp only [Act.put, List.setIfInBounds_toArray, List.set_cons_zero, List.set_cons_succ]
  refine Ht.takeD 8 (i := 7) ⟨some 14, _, _, _, _, _⟩ (.agg #[]) rfl (by kernel_rfl) (by kernel_rfl) (by decide) (by kernel_rfl) (by kernel_rfl) (by kernel_rfl) hS0 (Or.inl ⟨by rfl, by (intro X hX; go_simp)⟩) ?_
  simp only [Act.put, List.setIfInBounds_toArray, List.set_cons_zero, List.set_cons_succ]
  refine Ht.takeD 8 (i := 8) ⟨some 15, _, _, _, _, _⟩ (.bool fx) rfl (by kernel_rfl) (by kernel_rfl) (by decide) (by kernel_rfl) (by kernel_rfl) (by kernel_rfl) hS0 (Or.inl ⟨by rfl, by (intro X hX; go_simp)⟩) ?_
  simp only [Act.put, List.setIfInBounds_toArray, List.set_cons_zero, List.set_cons_succ]
  have b1 : Below V.heap.size V (V.drew.alloc (.cells #[] 56)) := (Below.refl _ V).drew.alloc (Nat.le_refl _) _
  refine Ht.step (i := 9) ⟨some 5, _, _, _, _, _⟩ rfl (by kernel_rfl) (by rfl) (fun K hK => ?_)
  go_simp
  refine hK _ _ (fun hn => b1) (fun hnx => ?_)
  clear hK K hnx
  try simp only [Act.put, List.setIfInBounds_toArray, List.set_cons_zero, List.set_cons_succ]
  refine Ht.step (i := 10) ⟨none, _, _, _, _, _⟩ rfl (by kernel_rfl) (by rfl) (fun K hK => ?_)
  go_simp
  refine hK _ _ (fun hn => b1) (fun hnx => ?_)
  clear hK K hnx
  try simp only [Act.put, List.setIfInBounds_toArray, List.set_cons_zero, List.set_cons_succ]
  refine Ht.step (i := 11) ⟨some 6, _, _, _, _, _⟩ rfl (by kernel_rfl) (by rfl) (fun K hK => ?_)
  go_simp
  refine hK _ _ (fun hn => absurd rfl hn) (fun hnx => ?_)
  clear hK K hnx
  try simp only [Act.put, List.setIfInBounds_toArray, List.set_cons_zero, List.set_cons_succ]
  refine done (by kernel_rfl) ?_
  go_wp2_with fail
  go_ret
  exact ⟨by simp, HB.out.trans (b1.mono HB.out.size)⟩
theorem last_of {l : List Id} (h : l ≠ []) : ∃ i x, l = i ++ [x] := ⟨l.dropLast, l.getLast h, (List.dropLast_concat_getLast h).symm⟩
theorem Wk.top (h : Wk T O w wb fb rv ns R fid cb nx F n rest) {i : List Id} {x : Id} (e : rest = i ++ [x]) :
    ∃ g c cur, rv = .slice (some ⟨g, 0, none⟩) (i.length + 1) c ∧ i.length + 1 ≤ c ∧ w.cell? ⟨g, i.length * 2, none⟩ = some (kv x.1) ∧ w.cell? ⟨g, i.length * 2 + 1, none⟩ = some (.bool x.2) ∧ x ∈ ns ∧ O g ∧ g ≠ wb ∧ g ≠ fb ∧ w.heap[g]? = some (.cells cur 67 (0, 0)) ∧ w.ownsRow 0 67 2 (.slice (some ⟨g, 0, none⟩) i.length c) i.length (rc i) := by
  subst e
  have hx : x ∈ ns := h.rin x (by simp)
  obtain ⟨h0, h1 | ⟨g, cap, cur, rfl, hB, hg, h2, h3, h4, h5⟩⟩ := h.row
  · exact absurd h1.2 (by simp)
  · rw [List.length_append, List.length_singleton] at *
    have hcur : (rc (i ++ [x])).length = (i.length + 1) * 2 := by rw [rc_len]; simp
    have hk : ∀ k u, (rc (i ++ [x]))[k]? = some u → w.cell? ⟨g, k, none⟩ = some u := fun k u hu => by
      rw [cell_of_row w g _ cur _ _ hg]
      rw [← h5] at hu
      have hlt : k < (i.length + 1) * 2 := by
        have := (List.getElem?_eq_some_iff.1 hu).1
        rw [List.length_take] at this; omega
      rw [List.getElem?_take_of_lt hlt, Array.getElem?_toList] at hu
      exact hu
    refine ⟨g, cap, cur, rfl, h2, hk _ _ ?_, hk _ _ ?_, hx, h.ownR g rfl, fun e => ?_, fun e => ?_, hg, ?_⟩
    · rw [rc_app, List.getElem?_append_right (by rw [rc_len]; exact Nat.le_refl _), rc_len, Nat.sub_self]; rfl
    · rw [rc_app, List.getElem?_append_right (by rw [rc_len]; omega), rc_len, show i.length * 2 + 1 - i.length * 2 = 1 by omega]; rfl
    · have h6 := h.obj
      rw [← e, hg] at h6
      have h7 := (Obj.cells.inj (Option.some.inj h6)).2.1
      exact absurd h7 (by decide)
    · subst e
      exact h.found.ne hg rfl
    · refine ⟨rc_len i, .inr ⟨g, cap, cur, rfl, hB, hg, by omega, h3, h4, ?_⟩⟩
      have e1 : cur.toList.take (i.length * 2) = (cur.toList.take ((i.length + 1) * 2)).take (i.length * 2) := by rw [List.take_take, Nat.min_eq_left (by omega)]
      rw [e1, h5, rc_app, List.take_append_of_le_length (by rw [rc_len]; exact Nat.le_refl _), List.take_of_length_le (by rw [rc_len]; exact Nat.le_refl _)]
end
end Go.Proofs.Ytmlmacplkfnhkaa.DgB

