
/- commands: which fields a kind has, and whether there is one -/
import Derived.Test.YtfidmjpjfigmcaaCm6
import Derived.Test.YtfidmjpjfigmcaaRs
namespace Go.Proofs.Ytfidmjpjfigmcaa.Cm
open Go.RowKit Go.Lib Wn Rf By
set_option linter.unusedVariables false
set_option maxRecDepth 20000
def flds (k : Int) : Value := .agg #[.bool (bS k), .bool (bW k), .bool (bN k), .bool (bT k), .bool (bV k)]
theorem results_c1 {fn : Func} {p : Tmp} {ty : TypeId} (h : fn.results = #[.cell p ty]) (tmps : Array Value) (P : Program) (w : World) :
    (results fn tmps).run P w = ((asAddr (tmps.getD p undef)).run P w).andThen fun a w₁ => (loadVar ty a).run P w₁ := by
  simp only [results, h]
  simp [Sem.run_bind, Result.andThen]
theorem fields_1 (w : World) : Calls Try.prog 25 #[.int .i64 1] w fun e w' => e = .returned (.agg #[.bool true, .bool false, .bool false, .bool false, .bool false]) ∧ Below w.heap.size w w' := by
  go_enter Try.func25, Try.ntmps25
  go_wp2_with fail
  refine bodyPost_ret (v := .agg #[.bool true, .bool false, .bool false, .bool false, .bool false]) ?_ rfl ⟨rfl, ?_⟩
  · rw [results_c1 rfl]
    go_simp
  · first | exact (Below.refl _ _).alloc (Nat.le_refl _) _ | trace_state
theorem fields_2 (w : World) : Calls Try.prog 25 #[.int .i64 2] w fun e w' => e = .returned (.agg #[.bool false, .bool true, .bool false, .bool false, .bool false]) ∧ Below w.heap.size w w' := by
  go_enter Try.func25, Try.ntmps25
  go_wp2_with fail
  refine bodyPost_ret (v := .agg #[.bool false, .bool true, .bool false, .bool false, .bool false]) ?_ rfl ⟨rfl, ?_⟩
  · rw [results_c1 rfl]
    go_simp
  · first | exact (Below.refl _ _).alloc (Nat.le_refl _) _ | trace_state
theorem fields_3 (w : World) : Calls Try.prog 25 #[.int .i64 3] w fun e w' => e = .returned (.agg #[.bool false, .bool false, .bool true, .bool true, .bool false]) ∧ Below w.heap.size w w' := by
  go_enter Try.func25, Try.ntmps25
  go_wp2_with fail
  refine bodyPost_ret (v := .agg #[.bool false, .bool false, .bool true, .bool true, .bool false]) ?_ rfl ⟨rfl, ?_⟩
  · rw [results_c1 rfl]
    go_simp
  · first | exact (Below.refl _ _).alloc (Nat.le_refl _) _ | trace_state
theorem fields_4 (w : World) : Calls Try.prog 25 #[.int .i64 4] w fun e w' => e = .returned (.agg #[.bool false, .bool false, .bool true, .bool true, .bool true]) ∧ Below w.heap.size w w' := by
  go_enter Try.func25, Try.ntmps25
  go_wp2_with fail
  refine bodyPost_ret (v := .agg #[.bool false, .bool false, .bool true, .bool true, .bool true]) ?_ rfl ⟨rfl, ?_⟩
  · rw [results_c1 rfl]
    go_simp
  · first | exact (Below.refl _ _).alloc (Nat.le_refl _) _ | trace_state
theorem fields_5 (w : World) : Calls Try.prog 25 #[.int .i64 5] w fun e w' => e = .returned (.agg #[.bool false, .bool false, .bool true, .bool true, .bool false]) ∧ Below w.heap.size w w' := by
  go_enter Try.func25, Try.ntmps25
  go_wp2_with fail
  refine bodyPost_ret (v := .agg #[.bool false, .bool false, .bool true, .bool true, .bool false]) ?_ rfl ⟨rfl, ?_⟩
  · rw [results_c1 rfl]
    go_simp
  · first | exact (Below.refl _ _).alloc (Nat.le_refl _) _ | trace_state
theorem fields_6 (w : World) : Calls Try.prog 25 #[.int .i64 6] w fun e w' => e = .returned (.agg #[.bool false, .bool false, .bool true, .bool false, .bool false]) ∧ Below w.heap.size w w' := by
  go_enter Try.func25, Try.ntmps25
  go_wp2_with fail
  refine bodyPost_ret (v := .agg #[.bool false, .bool false, .bool true, .bool false, .bool false]) ?_ rfl ⟨rfl, ?_⟩
  · rw [results_c1 rfl]
    go_simp
  · first | exact (Below.refl _ _).alloc (Nat.le_refl _) _ | trace_state
theorem fields_7 (w : World) : Calls Try.prog 25 #[.int .i64 7] w fun e w' => e = .returned (.agg #[.bool false, .bool false, .bool true, .bool false, .bool false]) ∧ Below w.heap.size w w' := by
  go_enter Try.func25, Try.ntmps25
  go_wp2_with fail
  refine bodyPost_ret (v := .agg #[.bool false, .bool false, .bool true, .bool false, .bool false]) ?_ rfl ⟨rfl, ?_⟩
  · rw [results_c1 rfl]
    go_simp
  · first | exact (Below.refl _ _).alloc (Nat.le_refl _) _ | trace_state
theorem fields_8 (w : World) : Calls Try.prog 25 #[.int .i64 8] w fun e w' => e = .returned (.agg #[.bool false, .bool false, .bool true, .bool false, .bool false]) ∧ Below w.heap.size w w' := by
  go_enter Try.func25, Try.ntmps25
  go_wp2_with fail
  refine bodyPost_ret (v := .agg #[.bool false, .bool false, .bool true, .bool false, .bool false]) ?_ rfl ⟨rfl, ?_⟩
  · rw [results_c1 rfl]
    go_simp
  · first | exact (Below.refl _ _).alloc (Nat.le_refl _) _ | trace_state
theorem fields_9 (w : World) : Calls Try.prog 25 #[.int .i64 9] w fun e w' => e = .returned (.agg #[.bool false, .bool false, .bool false, .bool false, .bool true]) ∧ Below w.heap.size w w' := by
  go_enter Try.func25, Try.ntmps25
  go_wp2_with fail
  refine bodyPost_ret (v := .agg #[.bool false, .bool false, .bool false, .bool false, .bool true]) ?_ rfl ⟨rfl, ?_⟩
  · rw [results_c1 rfl]
    go_simp
  · first | exact (Below.refl _ _).alloc (Nat.le_refl _) _ | trace_state
theorem fields_none (k : Int) (w : World) (h : k < 1 ∨ 9 < k) : Calls Try.prog 25 #[.int .i64 k] w fun e w' => e = .returned (.agg #[.bool false, .bool false, .bool false, .bool false, .bool false]) ∧ Below w.heap.size w w' := by
  have i1 : (k == 1) = false := beq_eq_false_iff_ne.2 (by omega)
  have i2 : (k == 2) = false := beq_eq_false_iff_ne.2 (by omega)
  have i3 : (k == 3) = false := beq_eq_false_iff_ne.2 (by omega)
  have i4 : (k == 4) = false := beq_eq_false_iff_ne.2 (by omega)
  have i5 : (k == 5) = false := beq_eq_false_iff_ne.2 (by omega)
  have i6 : (k == 6) = false := beq_eq_false_iff_ne.2 (by omega)
  have i7 : (k == 7) = false := beq_eq_false_iff_ne.2 (by omega)
  have i8 : (k == 8) = false := beq_eq_false_iff_ne.2 (by omega)
  have i9 : (k == 9) = false := beq_eq_false_iff_ne.2 (by omega)
  go_enter Try.func25, Try.ntmps25
  go_wp2_with fail
  refine bodyPost_ret (v := .agg #[.bool false, .bool false, .bool false, .bool false, .bool false]) ?_ rfl ⟨rfl, ?_⟩
  · rw [results_c1 rfl]
    go_simp
  · first | exact (Below.refl _ _).alloc (Nat.le_refl _) _ | trace_state
theorem fields_any (k : Int) (w : World) : Calls Try.prog 25 #[.int .i64 k] w fun e w' => e = .returned (flds k) ∧ Below w.heap.size w w' := by
  rcases cls k with h | h | h | h | h | h | h
  · subst h; exact fields_1 w
  · subst h; exact fields_2 w
  · rcases h with h | h <;> subst h
    · exact fields_3 w
    · exact fields_5 w
  · subst h; exact fields_4 w
  · rcases h with h | h | h <;> subst h
    · exact fields_6 w
    · exact fields_7 w
    · exact fields_8 w
  · subst h; exact fields_9 w
  · have e : flds k = .agg #[.bool false, .bool false, .bool false, .bool false, .bool false] := by
      unfold flds bS bW bN bT bV
      rw [decide_eq_false (show ¬ k = 1 by omega), decide_eq_false (show ¬ k = 2 by omega), decide_eq_false (show ¬ k = 4 by omega), decide_eq_false (show ¬ k = 9 by omega)]
      rcases h with h | h
      · rw [decide_eq_false (show ¬ 3 ≤ k by omega)]; rfl
      · rw [decide_eq_false (show ¬ k ≤ 8 by omega), decide_eq_false (show ¬ k ≤ 5 by omega), Bool.and_false]; rfl
    rw [e]
    exact fields_none k w h
theorem isKind_any (k : Int) (w : World) : Calls Try.prog 21 #[.int .i64 k] w fun e w' => e = .returned (.bool (isK k)) ∧ w' = w := by
  by_cases h : 0 ≤ k
  · have e : isK k = decide (k < 10) := by unfold isK; rw [decide_eq_true h, Bool.true_and]; exact decide_eq_decide.2 (by omega)
    rw [e]
    go_enter Try.func21, Try.ntmps21
    go_wp2_with fail
    go_ret
    exact ⟨rfl, rfl⟩
  · have e : isK k = false := by unfold isK; rw [decide_eq_false h]; rfl
    rw [e]
    go_enter Try.func21, Try.ntmps21
    go_wp2_with fail
    go_ret
    exact ⟨rfl, rfl⟩
end Go.Proofs.Ytfidmjpjfigmcaa.Cm
