
/- wheels: compare -/
import Derived.Test.YtcafiehlhdoibaaWh4
import Derived.Sort.Grow
import Derived.Shelf.Abstract
namespace Go.Proofs.Ytcafiehlhdoibaa.Wh
open Go.RowKit Go.Lib Go.Sort Go.Maps Hp Ht
set_option linter.unusedVariables false
set_option maxRecDepth 20000
/-- less, equal, greater -/
def cm {V : Type} [LT V] [DecidableLT V] (x y : V) : Int := if x < y then -1 else if y < x then 1 else 0
theorem nanK_any (x : List UInt8) (w : World) : Calls Try.prog 53 #[ek x] w fun e w' => e = .returned (.bool false) ∧ w' = w := by
  unfold ek
  go_enter Try.func53, Try.ntmps53
  go_wp2
  go_ret
  exact ⟨by simp, rfl⟩
theorem cmpK_any (x y : List UInt8) (w : World) : Calls Try.prog 37 #[ek x, ek y] w fun e w' => e = .returned (.int .i64 (cm x y)) ∧ w' = w := by
  have h1 := nanK_any x w
  have h2 := nanK_any y w
  have e1 : Op.bytesLess x y = decide (x < y) := bytesLess_eq x y
  have hgt : ∀ W, (binOp .gtr 9 (.string ⟨x.toArray⟩) (.string ⟨y.toArray⟩)).run Try.prog W = .ok (.bool (decide (y < x))) W := gtr_str x y
  unfold ek at *
  go_enter Try.func37, Try.ntmps37
  go_wp2_with fail
  refine h1.mono ?_
  rintro e w1 ⟨rfl, rfl⟩
  go_wp2_with fail
  refine h2.mono ?_
  rintro e w1 ⟨rfl, rfl⟩
  go_wp2_with fail
  all_goals
    go_ret
    refine ⟨?_, rfl⟩
    unfold cm
    first | (simp_all; done) | (simp_all [bytesLess_eq]; done) | (simp; rw [if_neg (by omega), if_neg (by omega)])

theorem nanR_any (x : Int) (w : World) : Calls Try.prog 52 #[er x] w fun e w' => e = .returned (.bool false) ∧ w' = w := by
  unfold er
  go_enter Try.func52, Try.ntmps52
  go_wp2
  go_ret
  exact ⟨by simp, rfl⟩
theorem cmpR_any (x y : Int) (w : World) : Calls Try.prog 36 #[er x, er y] w fun e w' => e = .returned (.int .i64 (cm x y)) ∧ w' = w := by
  have h1 := nanR_any x w
  have h2 := nanR_any y w
  unfold er at *
  go_enter Try.func36, Try.ntmps36
  go_wp2_with fail
  refine h1.mono ?_
  rintro e w1 ⟨rfl, rfl⟩
  go_wp2_with fail
  refine h2.mono ?_
  rintro e w1 ⟨rfl, rfl⟩
  go_wp2_with fail
  all_goals
    go_ret
    refine ⟨?_, rfl⟩
    unfold cm
    first | (simp_all; done) | fail | (simp; rw [if_neg (by omega), if_neg (by omega)])

theorem cfp_cm (x y : K × Int) : cfp x y = if cm x.2 y.2 = 0 then cm x.1 y.1 else cm x.2 y.2 := by
  unfold cfp cm
  by_cases h1 : x.2 < y.2
  · simp [h1]
  · by_cases h2 : y.2 < x.2
    · simp [h1, h2]
    · simp [h1, h2]

theorem cm_cases {V : Type} [LT V] [DecidableLT V] (x y : V) : -1 ≤ cm x y ∧ cm x y ≤ 1 := by
  unfold cm; split
  · omega
  · split <;> omega
/-- cmp.Or of two -/
theorem or_any (w : World) (g c : Nat) (a b : Int) (h0 : w.cell? ⟨g, 0, none⟩ = some (.int .i64 a)) (h1 : w.cell? ⟨g, 1, none⟩ = some (.int .i64 b)) :
    Calls Try.prog 35 #[.slice (some ⟨g, 0, none⟩) 2 c] w fun e w' => e = .returned (.int .i64 (if a = 0 then b else a)) ∧ w' = w := by
  go_enter Try.func35, Try.ntmps35
  go_wp2_with fail
  go_loopw [5, 8] (fun v i wr => wr = w ∧ ((i = .int .i64 0) ∨ (i = .int .i64 1 ∧ a = 0) ∨ (i = .int .i64 2 ∧ a = 0 ∧ b = 0))) (fun _ i _ => 2 - (RowKit.intOf i).toNat)
  case atStart => exact ⟨rfl, .inl rfl⟩
  case round =>
    obtain ⟨rfl, rfl | ⟨rfl, rfl⟩ | ⟨rfl, rfl, rfl⟩⟩ := hrel
    · by_cases e : a = 0
      · subst e
        go_wp2_with fail
        go_roundw
        case rel => simp
        case measure => simp [RowKit.intOf]
      · go_wp2_with fail
        go_ret
        exact ⟨by simp, rfl⟩
    · by_cases e : b = 0
      · subst e
        go_wp2_with fail
        go_roundw
        case rel => simp
        case measure => simp [RowKit.intOf]
      · go_wp2_with fail
        go_ret
        exact ⟨by simp, rfl⟩
    · go_wp2_with fail
      go_ret
      exact ⟨by simp, rfl⟩
set_option maxHeartbeats 1000000 in
theorem compare_any (x y : K × Int) (w : World) : Calls Try.prog 26 #[.agg #[ek x.1, er x.2], .agg #[ek y.1, er y.2]] w fun e w' =>
    e = .returned (.int .i64 (cfp x y)) ∧ ∃ q os, w' = grow (w.drewN q) os := by
  have hmix : Try.prog.follows .mixedOrders = true := by kernel_rfl
  have hR := fun W => cmpR_any x.2 y.2 W
  have hC2 := fun W => cmpK_any x.1 y.1 W
  have b1 := cm_cases x.2 y.2
  have b2 := cm_cases x.1 y.1
  rw [cfp_cm]
  unfold ek er at *
  obtain ⟨xk, xr⟩ := x
  obtain ⟨yk, yr⟩ := y
  dsimp only at *
  generalize cm xk yk = ck at *
  generalize cm xr yr = cr at *
  have hO0 := fun W g c => or_any W g c cr ck
  obtain ⟨R, hRe⟩ : ∃ R : Int, R = if cr = 0 then ck else cr := ⟨_, rfl⟩
  rw [← hRe] at hO0 ⊢
  have HO := Lib.hid hO0
  clear hRe hO0
  have HB := Lib.hid (And.intro b1 b2)
  clear b1 b2
  obtain ⟨V, hV⟩ : ∃ V, V = (w.alloc (.cells #[.string ⟨xk.toArray⟩, .int .i64 xr] 42)).alloc (.cells #[.string ⟨yk.toArray⟩, .int .i64 yr] 42) := ⟨_, rfl⟩
  have o1 : V.heap[w.heap.size]? = some (.cells #[.string ⟨xk.toArray⟩, .int .i64 xr] 42 (0, 0)) := by
    rw [hV]; exact ((MapKept.heap_alloc _ _).2 _ (by simp)).trans (MapKept.heap_alloc w _).1
  have o2 : V.heap[w.heap.size + 1]? = some (.cells #[.string ⟨yk.toArray⟩, .int .i64 yr] 42 (0, 0)) := by
    have := (MapKept.heap_alloc (w.alloc (.cells #[.string ⟨xk.toArray⟩, .int .i64 xr] 42)) (.cells #[.string ⟨yk.toArray⟩, .int .i64 yr] 42)).1
    rw [World.size_alloc] at this
    rw [hV]; exact this
  have c1 : V.cell? ⟨w.heap.size, 1, none⟩ = some (.int .i64 xr) := by rw [cell_of_row _ _ _ _ _ _ o1]; rfl
  have c2 : V.cell? ⟨w.heap.size + 1, 1, none⟩ = some (.int .i64 yr) := by rw [cell_of_row _ _ _ _ _ _ o2]; rfl
  have c3 : V.cell? ⟨w.heap.size, 0, none⟩ = some (.string ⟨xk.toArray⟩) := by rw [cell_of_row _ _ _ _ _ _ o1]; rfl
  have c4 : V.cell? ⟨w.heap.size + 1, 0, none⟩ = some (.string ⟨yk.toArray⟩) := by rw [cell_of_row _ _ _ _ _ _ o2]; rfl
  have HV := Lib.hid hV
  clear o1 o2
  go_enter Try.func26, Try.ntmps26
  go_wp2_with fail
  rw [← hV]
  clear hV
  refine begin' 99 (fun _ => True) hmix trivial (fun _ => ?_)
  refine later [10, 11, 12] (fun X => X.cell? ⟨w.heap.size, 1, none⟩ = some (.int .i64 xr) ∧ X.cell? ⟨w.heap.size + 1, 1, none⟩ = some (.int .i64 yr) ∧ X.cell? ⟨w.heap.size, 0, none⟩ = some (.string ⟨xk.toArray⟩) ∧ X.cell? ⟨w.heap.size + 1, 0, none⟩ = some (.string ⟨yk.toArray⟩)) (⟨c1, c2, c3, c4⟩) (fun hS0 => ?_)
  refine Ht.takeS 10 (i := 0) ⟨some 5, _, _, _, _, _⟩ (.pointer (some ⟨w.heap.size, 1, none⟩)) rfl (by kernel_rfl) (by kernel_rfl) (by kernel_rfl) (by kernel_rfl) (by kernel_rfl) hS0 (Or.inl ⟨by rfl, by (intro X hX; go_simp)⟩) ?_
  simp only [Act.put, List.setIfInBounds_toArray, List.set_cons_zero, List.set_cons_succ]
  refine Ht.takeS 10 (i := 1) ⟨some 6, _, _, _, _, _⟩ (.int .i64 xr) rfl (by kernel_rfl) (by kernel_rfl) (by kernel_rfl) (by kernel_rfl) (by kernel_rfl) hS0 (Or.inl ⟨by rfl, by (intro X hX; have := hX.1; go_simp)⟩) ?_
  simp only [Act.put, List.setIfInBounds_toArray, List.set_cons_zero, List.set_cons_succ]
  refine Ht.takeS 10 (i := 2) ⟨some 7, _, _, _, _, _⟩ (.pointer (some ⟨w.heap.size + 1, 1, none⟩)) rfl (by kernel_rfl) (by kernel_rfl) (by kernel_rfl) (by kernel_rfl) (by kernel_rfl) hS0 (Or.inl ⟨by rfl, by (intro X hX; go_simp)⟩) ?_
  simp only [Act.put, List.setIfInBounds_toArray, List.set_cons_zero, List.set_cons_succ]
  refine Ht.takeS 10 (i := 3) ⟨some 8, _, _, _, _, _⟩ (.int .i64 yr) rfl (by kernel_rfl) (by kernel_rfl) (by kernel_rfl) (by kernel_rfl) (by kernel_rfl) hS0 (Or.inl ⟨by rfl, by (intro X hX; have := hX.2.1; go_simp)⟩) ?_
  simp only [Act.put, List.setIfInBounds_toArray, List.set_cons_zero, List.set_cons_succ]
  refine Ht.takeS 10 (i := 5) ⟨some 10, _, _, _, _, _⟩ (.pointer (some ⟨w.heap.size, 0, none⟩)) rfl (by kernel_rfl) (by kernel_rfl) (by kernel_rfl) (by kernel_rfl) (by kernel_rfl) hS0 (Or.inl ⟨by rfl, by (intro X hX; go_simp)⟩) ?_
  simp only [Act.put, List.setIfInBounds_toArray, List.set_cons_zero, List.set_cons_succ]
  refine Ht.takeS 10 (i := 6) ⟨some 11, _, _, _, _, _⟩ (.string ⟨xk.toArray⟩) rfl (by kernel_rfl) (by kernel_rfl) (by kernel_rfl) (by kernel_rfl) (by kernel_rfl) hS0 (Or.inl ⟨by rfl, by (intro X hX; have := hX.2.2.1; go_simp)⟩) ?_
  simp only [Act.put, List.setIfInBounds_toArray, List.set_cons_zero, List.set_cons_succ]
  refine Ht.takeS 10 (i := 7) ⟨some 12, _, _, _, _, _⟩ (.pointer (some ⟨w.heap.size + 1, 0, none⟩)) rfl (by kernel_rfl) (by kernel_rfl) (by kernel_rfl) (by kernel_rfl) (by kernel_rfl) hS0 (Or.inl ⟨by rfl, by (intro X hX; go_simp)⟩) ?_
  simp only [Act.put, List.setIfInBounds_toArray, List.set_cons_zero, List.set_cons_succ]
  refine Ht.takeS 10 (i := 8) ⟨some 13, _, _, _, _, _⟩ (.string ⟨yk.toArray⟩) rfl (by kernel_rfl) (by kernel_rfl) (by kernel_rfl) (by kernel_rfl) (by kernel_rfl) hS0 (Or.inl ⟨by rfl, by (intro X hX; have := hX.2.2.2; go_simp)⟩) ?_
  simp only [Act.put, List.setIfInBounds_toArray, List.set_cons_zero, List.set_cons_succ]
  refine Ht.stepS (i := 4) ⟨some 9, _, _, _, _, _⟩ rfl (by kernel_rfl) (by rfl) (fun K hK => ?_)
  refine Ht.enter 36 #[.int .i64 xr, .int .i64 yr] (by have hen := fun args w => enters_of (P := Try.prog) Try.func36 (by kernel_rfl) rfl args w; go_simp) (hR _) ?_
  rintro e W1 ⟨rfl, rfl⟩
  refine ⟨_, rfl, hK _ _ (fun hn => hS0) (fun hnx => ?_)⟩
  clear hK K hnx
  simp only [Act.put, List.setIfInBounds_toArray, List.set_cons_zero, List.set_cons_succ]
  refine Ht.stepS (i := 9) ⟨some 14, _, _, _, _, _⟩ rfl (by kernel_rfl) (by rfl) (fun K hK => ?_)
  refine Ht.enter 37 #[.string ⟨xk.toArray⟩, .string ⟨yk.toArray⟩] (by have hen := fun args w => enters_of (P := Try.prog) Try.func37 (by kernel_rfl) rfl args w; go_simp) (hC2 _) ?_
  rintro e W1 ⟨rfl, rfl⟩
  refine ⟨_, rfl, hK _ _ (fun hn => hS0) (fun hnx => ?_)⟩
  clear hK K hnx
  simp only [Act.put, List.setIfInBounds_toArray, List.set_cons_zero, List.set_cons_succ]
  refine Ht.stepS (i := 10) ⟨some 15, _, _, _, _, _⟩ rfl (by kernel_rfl) (by rfl) (fun K hK => ?_)
  go_simp
  refine hK _ _ (fun hn => absurd (by decide) hn) (fun hnx => ?_)
  clear hK K hnx
  try simp only [Act.put, List.setIfInBounds_toArray, List.set_cons_zero, List.set_cons_succ]
  refine Ht.stepS (i := 11) ⟨some 16, _, _, _, _, _⟩ rfl (by kernel_rfl) (by rfl) (fun K hK => ?_)
  refine Ht.enter 35 #[.slice (some ⟨V.heap.size, 0, none⟩) 2 2] (by have hen := fun args w => enters_of (P := Try.prog) Try.func35 (by kernel_rfl) rfl args w; go_simp) (HO.out _ V.heap.size 2 (by go_simp) (by go_simp)) ?_
  rintro e W1 ⟨rfl, rfl⟩
  refine ⟨_, rfl, hK _ _ (fun hn => absurd (by decide) hn) (fun hnx => ?_)⟩
  clear hK K hnx
  simp only [Act.put, List.setIfInBounds_toArray, List.set_cons_zero, List.set_cons_succ]
  refine Ht.stepS (i := 12) ⟨some 4, _, _, _, _, _⟩ rfl (by kernel_rfl) (by rfl) (fun K hK => ?_)
  go_simp
  refine hK _ _ (fun hn => absurd (by decide) hn) (fun hnx => ?_)
  clear hK K hnx
  try simp only [Act.put, List.setIfInBounds_toArray, List.set_cons_zero, List.set_cons_succ]
  refine doneS (by kernel_rfl) ?_
  go_wp2_with fail
  go_ret
  exact ⟨by simp, 1, _, by rw [HV.out, alloc_eq_grow, alloc_eq_grow, alloc_eq_grow, grow_grow, grow_grow]; rfl⟩
theorem grow_below (w : World) (os : Array Obj) (q : Nat) : Below w.heap.size w (grow (w.drewN q) os) :=
  ⟨rfl, rfl, rfl, by simp [grow, World.drewN], fun k hk => by simp [grow, World.drewN, Array.getElem?_append, hk]⟩
end Go.Proofs.Ytcafiehlhdoibaa.Wh
