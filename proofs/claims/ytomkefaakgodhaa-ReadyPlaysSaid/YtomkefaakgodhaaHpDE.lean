
/- heaps of string and uint64: ahead, below -/
import Derived.Test.YtomkefaakgodhaaHpCE
import Derived.Lib.Hide
namespace Go.Proofs.Ytomkefaakgodhaa.HpE
open Go.RowKit Go.Lib Go.Sort Hp Ht
set_option linter.unusedVariables false
set_option maxRecDepth 20000
section
variable {S : Nat → Prop} {w : World} {hb : Nat} {iv mv : Value} {l : List (K × Int)} {f : K → Option Nat}
theorem ahead_any (h : Hq S w hb iv mv l f) {i j : Nat} (hi : i < l.length) (hj : j < l.length) (hn : l.length ≤ 1000000) :
    Calls Try.prog 44 #[.pointer (some ⟨hb, 0, none⟩), .int .i64 ((i : Nat) : Int), .int .i64 ((j : Nat) : Int)] w fun e w' => e = .returned (.bool (ltp (el l i) (el l j))) ∧ Below w.heap.size w w' := by
  have hc := fun W => compare_any (el l i) (el l j) W
  have hI := h.items
  obtain ⟨g, cap, b, rfl, hB, rfl, hM, hSg, hSb, hgb, hbb, hgm⟩ := h.at (by omega)
  have k1 := hB.key hi
  have r1 := hB.rank hi
  have k2 := hB.key hj
  have r2 := hB.rank hj
  clear hM hB h hSg hSb hgb hbb hgm
  rw [← cfp_neg]
  generalize cfp (el l i) (el l j) = c at *
  generalize ek (el l i).1 = x1 at *
  generalize er (el l i).2 = x2 at *
  generalize ek (el l j).1 = y1 at *
  generalize er (el l j).2 = y2 at *
  generalize l.length = n at *
  have hix : ((i : Nat) : Int) < ((n : Nat) : Int) := by omega
  have hjx : ((j : Nat) : Int) < ((n : Nat) : Int) := by omega
  have hmix : Try.prog.follows .mixedOrders = true := by kernel_rfl
  have HC := Lib.hid hc
  clear hc
  go_enter Try.func44, Try.ntmps44
  go_wp2_with fail
  refine begin' 99 (fun _ => True) hmix trivial (fun _ => ?_)
  refine later [14, 15, 16] (fun X => X.cell? ⟨hb, 0, none⟩ = some (.slice (some ⟨g, 0, none⟩) n cap) ∧ X.cell? ⟨g, i * 2, none⟩ = some x1 ∧ X.cell? ⟨g, i * 2 + 1, none⟩ = some x2 ∧ X.cell? ⟨g, j * 2, none⟩ = some y1 ∧ X.cell? ⟨g, j * 2 + 1, none⟩ = some y2) (⟨hI, k1, r1, k2, r2⟩) (fun hS0 => ?_)
  refine Ht.takeS 10 (i := 0) ⟨some 7, _, _, _, _, _⟩ (.pointer (some ⟨hb, 0, none⟩)) rfl (by kernel_rfl) (by kernel_rfl) (by kernel_rfl) (by kernel_rfl) (by kernel_rfl) hS0 (Or.inl ⟨by rfl, by (intro X hX; go_simp)⟩) ?_
  simp only [Act.put, List.setIfInBounds_toArray, List.set_cons_zero, List.set_cons_succ]
  refine Ht.takeS 10 (i := 1) ⟨some 8, _, _, _, _, _⟩ (.pointer (some ⟨hb, 0, none⟩)) rfl (by kernel_rfl) (by kernel_rfl) (by kernel_rfl) (by kernel_rfl) (by kernel_rfl) hS0 (Or.inl ⟨by rfl, by (intro X hX; go_simp)⟩) ?_
  simp only [Act.put, List.setIfInBounds_toArray, List.set_cons_zero, List.set_cons_succ]
  refine Ht.takeS 10 (i := 2) ⟨some 9, _, _, _, _, _⟩ (.pointer (some ⟨hb, 0, none⟩)) rfl (by kernel_rfl) (by kernel_rfl) (by kernel_rfl) (by kernel_rfl) (by kernel_rfl) hS0 (Or.inl ⟨by rfl, by (intro X hX; go_simp)⟩) ?_
  simp only [Act.put, List.setIfInBounds_toArray, List.set_cons_zero, List.set_cons_succ]
  refine Ht.takeS 10 (i := 3) ⟨some 10, _, _, _, _, _⟩ (.slice (some ⟨g, 0, none⟩) n cap) rfl (by kernel_rfl) (by kernel_rfl) (by kernel_rfl) (by kernel_rfl) (by kernel_rfl) hS0 (Or.inl ⟨by rfl, by (intro X hX; have := hX.1; go_simp)⟩) ?_
  simp only [Act.put, List.setIfInBounds_toArray, List.set_cons_zero, List.set_cons_succ]
  refine Ht.takeS 10 (i := 4) ⟨some 11, _, _, _, _, _⟩ (.int .i64 ((i : Nat) : Int)) rfl (by kernel_rfl) (by kernel_rfl) (by kernel_rfl) (by kernel_rfl) (by kernel_rfl) hS0 (Or.inl ⟨by rfl, by (intro X hX; go_simp)⟩) ?_
  simp only [Act.put, List.setIfInBounds_toArray, List.set_cons_zero, List.set_cons_succ]
  refine Ht.takeS 10 (i := 5) ⟨some 12, _, _, _, _, _⟩ (.pointer (some ⟨g, i * 2, none⟩)) rfl (by kernel_rfl) (by kernel_rfl) (by kernel_rfl) (by kernel_rfl) (by kernel_rfl) hS0 (Or.inl ⟨by rfl, by (intro X hX; go_simp)⟩) ?_
  simp only [Act.put, List.setIfInBounds_toArray, List.set_cons_zero, List.set_cons_succ]
  refine Ht.takeS 10 (i := 6) ⟨some 13, _, _, _, _, _⟩ (.agg #[x1, x2]) rfl (by kernel_rfl) (by kernel_rfl) (by kernel_rfl) (by kernel_rfl) (by kernel_rfl) hS0 (Or.inl ⟨by rfl, by (intro X hX; have := And.intro hX.2.1 hX.2.2.1; go_simp)⟩) ?_
  simp only [Act.put, List.setIfInBounds_toArray, List.set_cons_zero, List.set_cons_succ]
  refine Ht.takeS 10 (i := 7) ⟨some 14, _, _, _, _, _⟩ (.pointer (some ⟨hb, 0, none⟩)) rfl (by kernel_rfl) (by kernel_rfl) (by kernel_rfl) (by kernel_rfl) (by kernel_rfl) hS0 (Or.inl ⟨by rfl, by (intro X hX; go_simp)⟩) ?_
  simp only [Act.put, List.setIfInBounds_toArray, List.set_cons_zero, List.set_cons_succ]
  refine Ht.takeS 10 (i := 8) ⟨some 15, _, _, _, _, _⟩ (.pointer (some ⟨hb, 0, none⟩)) rfl (by kernel_rfl) (by kernel_rfl) (by kernel_rfl) (by kernel_rfl) (by kernel_rfl) hS0 (Or.inl ⟨by rfl, by (intro X hX; go_simp)⟩) ?_
  simp only [Act.put, List.setIfInBounds_toArray, List.set_cons_zero, List.set_cons_succ]
  refine Ht.takeS 10 (i := 9) ⟨some 16, _, _, _, _, _⟩ (.pointer (some ⟨hb, 0, none⟩)) rfl (by kernel_rfl) (by kernel_rfl) (by kernel_rfl) (by kernel_rfl) (by kernel_rfl) hS0 (Or.inl ⟨by rfl, by (intro X hX; go_simp)⟩) ?_
  simp only [Act.put, List.setIfInBounds_toArray, List.set_cons_zero, List.set_cons_succ]
  refine Ht.takeS 10 (i := 10) ⟨some 17, _, _, _, _, _⟩ (.slice (some ⟨g, 0, none⟩) n cap) rfl (by kernel_rfl) (by kernel_rfl) (by kernel_rfl) (by kernel_rfl) (by kernel_rfl) hS0 (Or.inl ⟨by rfl, by (intro X hX; have := hX.1; go_simp)⟩) ?_
  simp only [Act.put, List.setIfInBounds_toArray, List.set_cons_zero, List.set_cons_succ]
  refine Ht.takeS 10 (i := 11) ⟨some 18, _, _, _, _, _⟩ (.int .i64 ((j : Nat) : Int)) rfl (by kernel_rfl) (by kernel_rfl) (by kernel_rfl) (by kernel_rfl) (by kernel_rfl) hS0 (Or.inl ⟨by rfl, by (intro X hX; go_simp)⟩) ?_
  simp only [Act.put, List.setIfInBounds_toArray, List.set_cons_zero, List.set_cons_succ]
  refine Ht.takeS 10 (i := 12) ⟨some 19, _, _, _, _, _⟩ (.pointer (some ⟨g, j * 2, none⟩)) rfl (by kernel_rfl) (by kernel_rfl) (by kernel_rfl) (by kernel_rfl) (by kernel_rfl) hS0 (Or.inl ⟨by rfl, by (intro X hX; go_simp)⟩) ?_
  simp only [Act.put, List.setIfInBounds_toArray, List.set_cons_zero, List.set_cons_succ]
  refine Ht.takeS 10 (i := 13) ⟨some 20, _, _, _, _, _⟩ (.agg #[y1, y2]) rfl (by kernel_rfl) (by kernel_rfl) (by kernel_rfl) (by kernel_rfl) (by kernel_rfl) hS0 (Or.inl ⟨by rfl, by (intro X hX; have := And.intro hX.2.2.2.1 hX.2.2.2.2; go_simp)⟩) ?_
  simp only [Act.put, List.setIfInBounds_toArray, List.set_cons_zero, List.set_cons_succ]
  refine Ht.stepS (i := 14) ⟨some 21, _, _, _, _, _⟩ rfl (by kernel_rfl) (by rfl) (fun K hK => ?_)
  refine Ht.enter 42 #[.agg #[x1, x2], .agg #[y1, y2]] (by have hen := fun args w => enters_of (P := Try.prog) Try.func42 (by kernel_rfl) rfl args w; go_simp) (HC.out _) ?_
  rintro e w1 ⟨rfl, q, os, rfl⟩
  refine ⟨_, rfl, hK _ _ (fun hn => absurd (by decide) hn) (fun hnx => ?_)⟩
  clear hK K hnx
  simp only [Act.put, List.setIfInBounds_toArray, List.set_cons_zero, List.set_cons_succ]
  refine Ht.stepS (i := 15) ⟨some 22, _, _, _, _, _⟩ rfl (by kernel_rfl) (by rfl) (fun K hK => ?_)
  go_simp
  refine hK _ _ (fun hn => absurd (by decide) hn) (fun hnx => ?_)
  clear hK K hnx
  try simp only [Act.put, List.setIfInBounds_toArray, List.set_cons_zero, List.set_cons_succ]
  refine Ht.stepS (i := 16) ⟨some 6, _, _, _, _, _⟩ rfl (by kernel_rfl) (by rfl) (fun K hK => ?_)
  go_simp
  refine hK _ _ (fun hn => absurd (by decide) hn) (fun hnx => ?_)
  clear hK K hnx
  try simp only [Act.put, List.setIfInBounds_toArray, List.set_cons_zero, List.set_cons_succ]
  refine doneS (by kernel_rfl) ?_
  go_wp2_with fail
  go_ret
  exact ⟨by simp, grow_below w os (1 + q)⟩

theorem below_any (h : Hq S w hb iv mv l f) {i : Nat} (hi : i < l.length) (hn : l.length ≤ 1000000) :
    Calls Try.prog 47 #[.pointer (some ⟨hb, 0, none⟩), .int .i64 ((i : Nat) : Int)] w fun e w' => e = .returned (.int .i64 ((kid ltp l i : Nat) : Int)) ∧ Below w.heap.size w w' := by
  have e0 : IntKind.i64.wrap (2 * ((i : Nat) : Int)) = ((2 * i : Nat) : Int) := by rw [IntWalk.i64_in] <;> omega
  have e1 : IntKind.i64.wrap (((2 * i : Nat) : Int) + 1) = ((2 * i + 1 : Nat) : Int) := by rw [IntWalk.i64_in] <;> omega
  have e2 : IntKind.i64.wrap (((2 * i + 1 : Nat) : Int) + 1) = ((2 * i + 2 : Nat) : Int) := by rw [IntWalk.i64_in] <;> omega
  have hI := h.items
  obtain ⟨a, cap, hiv, hcap⟩ := h.shape
  rw [hiv] at hI
  by_cases hr : 2 * i + 2 < l.length
  · have hA := ahead_any h (i := 2 * i + 2) (j := 2 * i + 1) hr (by omega) hn
    have hk : ((kid ltp l i : Nat) : Int) = if ltp (el l (2 * i + 2)) (el l (2 * i + 1)) = true then ((2 * i + 2 : Nat) : Int) else ((2 * i + 1 : Nat) : Int) := by unfold kid; by_cases hc : ltp (el l (2 * i + 2)) (el l (2 * i + 1)) = true <;> simp [hr, hc]
    rw [hk]
    clear hk h hiv
    generalize ltp (el l (2 * i + 2)) (el l (2 * i + 1)) = t at *
    generalize l.length = n at *
    have hrx : ((2 * i + 2 : Nat) : Int) < ((n : Nat) : Int) := by omega
    generalize ((2 * i + 2 : Nat) : Int) = J2 at *
    generalize ((2 * i + 1 : Nat) : Int) = J1 at *
    generalize ((2 * i : Nat) : Int) = J0 at *
    generalize ((i : Nat) : Int) = I at *
    go_enter Try.func47, Try.ntmps47
    go_wp2_with fail
    refine hA.mono ?_
    rintro e w1 ⟨rfl, hb1⟩
    cases t
    all_goals
      go_wp2_with fail
      go_ret
      exact ⟨by simp, hb1⟩
  · have hk : ((kid ltp l i : Nat) : Int) = ((2 * i + 1 : Nat) : Int) := by unfold kid; rw [if_neg (by omega)]
    rw [hk]
    clear hk h hiv
    generalize l.length = n at *
    have hrx : ((n : Nat) : Int) ≤ ((2 * i + 2 : Nat) : Int) := by omega
    generalize ((2 * i + 2 : Nat) : Int) = J2 at *
    generalize ((2 * i + 1 : Nat) : Int) = J1 at *
    generalize ((2 * i : Nat) : Int) = J0 at *
    generalize ((i : Nat) : Int) = I at *
    go_enter Try.func47, Try.ntmps47
    go_wp2_with fail
    go_ret
    exact ⟨by simp, Below.refl _ _⟩
end
end Go.Proofs.Ytomkefaakgodhaa.HpE

