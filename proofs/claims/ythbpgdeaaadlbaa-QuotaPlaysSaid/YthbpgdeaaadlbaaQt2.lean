
/- quotas: how a ledger lies; New, Has, May -/
import Derived.Test.YthbpgdeaaadlbaaQt1
import Derived.WalkSpells
import Derived.Shelf.SlMaps.Clone
namespace Go.Proofs.Ythbpgdeaaadlbaa.Qt
open Go.RowKit Go.Lib Go.Maps Go.WideElems Go.ChangeMaps Go.MapKept Hp
set_option linter.unusedVariables false
set_option linter.unusedSectionVars false
set_option maxRecDepth 20000

theorem eql_some (b : Nat) (w : World) : (binOp .eql 29 (.map (some b)) (.map none)).run Try.prog w = .ok (.bool false) w := run_eql_map_nil_sl w _ _ _ (some b) Try.underlying29
theorem eql_none (w : World) : (binOp .eql 29 (.map none) (.map none)).run Try.prog w = .ok (.bool true) w := run_eql_map_nil_sl w _ _ _ none Try.underlying29
theorem make_map (w : World) : (Instr.makeMap 29 none).run Try.prog w = .ok (.map (some w.heap.size)) (w.alloc (.map #[] 0)) := by kernel_rfl
/-- a ledger as it lies: all blocks of S are its own -/
structure Lq (S : Nat → Prop) (w : World) (lb : Nat) (ea : Int) (mo ho : Option Nat) (nm nh : Nat) (M H : K → Option Int) : Prop where
  row : w.heap[lb]? = some (.cells #[.int .i64 ea, .map mo, .map ho] 46 (0, 0))
  most : Ms w mo nm M
  has : Ms w ho nh H
  own : S lb
  ownM : ∀ b, mo = some b → S b
  ownH : ∀ b, ho = some b → S b
  apart : ∀ b, mo = some b → ho ≠ some b
  size : ∀ k, S k → k < w.heap.size
  okE : 0 ≤ ea ∧ ea ≤ 128
  okM : ∀ k n, M k = some n → 0 ≤ n ∧ n ≤ 128
  okH : ∀ k n, H k = some n → 1 ≤ n ∧ n ≤ 128
/-- how many one may have, and has -/
def may (ea : Int) (M : K → Option Int) (k : K) : Int := (M k).getD ea
def has (H : K → Option Int) (k : K) : Int := (H k).getD 0
section
variable {S : Nat → Prop} {w : World} {lb : Nat} {ea : Int} {mo ho : Option Nat} {nm nh : Nat} {M H : K → Option Int}
theorem Lq.cells (h : Lq S w lb ea mo ho nm nh M H) : w.cell? ⟨lb, 0, none⟩ = some (.int .i64 ea) ∧ w.cell? ⟨lb, 1, none⟩ = some (.map mo) ∧ w.cell? ⟨lb, 2, none⟩ = some (.map ho) := by
  refine ⟨?_, ?_, ?_⟩ <;> (rw [cell_of_row w lb _ _ _ _ h.row]; rfl)
theorem Lq.frozen (h : Lq S w lb ea mo ho nm nh M H) (i : Nat) : w.frozen? ⟨lb, i, none⟩ = false := by simp [World.frozen?, h.row]
theorem Lq.kept {Y : World} (h : Lq S w lb ea mo ho nm nh M H) (hs : w.heap.size ≤ Y.heap.size) (e : ∀ k, S k → Y.heap[k]? = w.heap[k]?) : Lq S Y lb ea mo ho nm nh M H where
  row := (e lb h.own).trans h.row
  most := h.most.kept fun b hb => e b (h.ownM b hb)
  has := h.has.kept fun b hb => e b (h.ownH b hb)
  own := h.own
  ownM := h.ownM
  ownH := h.ownH
  apart := h.apart
  size k hk := Nat.lt_of_lt_of_le (h.size k hk) hs
  okE := h.okE
  okM := h.okM
  okH := h.okH
theorem Lq.below {Y : World} {B : Nat} (h : Lq S w lb ea mo ho nm nh M H) (b : Below B w Y) (hB : w.heap.size ≤ B) : Lq S Y lb ea mo ho nm nh M H :=
  h.kept b.size fun k hk => b.block k (Nat.lt_of_lt_of_le (h.size k hk) hB)
theorem Lq.fr {S' : Nat → Prop} {Y : World} (h : Lq S w lb ea mo ho nm nh M H) (e : Fr S' w Y) (hd : ∀ k, S k → ¬ S' k) : Lq S Y lb ea mo ho nm nh M H :=
  h.kept e.size fun k hk => e.block k (h.size k hk) (hd k hk)
theorem Lq.may_bd (h : Lq S w lb ea mo ho nm nh M H) (k : K) : 0 ≤ may ea M k ∧ may ea M k ≤ 128 := by
  unfold may
  cases e : M k with
  | none => exact h.okE
  | some n => exact h.okM k n e
theorem Lq.has_bd (h : Lq S w lb ea mo ho nm nh M H) (k : K) : 0 ≤ Qt.has H k ∧ Qt.has H k ≤ 128 ∧ (0 < Qt.has H k → (H k).isSome = true) ∧ (Qt.has H k = 0 → H k = none) := by
  unfold Qt.has
  cases e : H k with
  | none => exact ⟨by simp, by simp, fun h => by simp at h, fun _ => rfl⟩
  | some n =>
    have := h.okH k n e
    exact ⟨by simp; omega, by simp; omega, fun _ => rfl, fun h0 => by simp at h0; omega⟩
theorem isCount_any (n : Int) (w : World) : Calls Try.prog 17 #[.int .i64 n] w fun e w' => e = .returned (.bool (decide (0 ≤ n ∧ n ≤ 128))) ∧ w' = w := by
  by_cases h1 : 0 ≤ n
  · by_cases h2 : n ≤ 128
    · rw [show decide (0 ≤ n ∧ n ≤ 128) = true by simp [h1, h2]]
      go_enter Try.func17, Try.ntmps17
      go_wp2
      go_ret
      exact ⟨rfl, rfl⟩
    · rw [show decide (0 ≤ n ∧ n ≤ 128) = false by simp [h2]]
      go_enter Try.func17, Try.ntmps17
      go_wp2
      go_ret
      exact ⟨rfl, rfl⟩
  · rw [show decide (0 ≤ n ∧ n ≤ 128) = false by simp [h1]]
    go_enter Try.func17, Try.ntmps17
    go_wp2
    go_ret
    exact ⟨rfl, rfl⟩
theorem New_no (n : Int) (hn : ¬ (0 ≤ n ∧ n ≤ 128)) (w : World) : Calls Try.prog 7 #[.int .i64 n] w fun e w' => e = .returned (.tuple #[.pointer none, .int .i64 1]) ∧ w' = w := by
  have h := isCount_any n w
  rw [decide_eq_false hn] at h
  clear hn
  go_enter Try.func7, Try.ntmps7
  go_wp2_with fail
  refine h.mono ?_
  rintro e w' ⟨rfl, rfl⟩
  go_wp2_with fail
  refine bodyPost_ret (results_tmp2 rfl _ _ _) rfl ?_
  exact ⟨rfl, rfl⟩
theorem New_ok (n : Int) (hn : 0 ≤ n ∧ n ≤ 128) (w : World) : Calls Try.prog 7 #[.int .i64 n] w fun e w' => e = .returned (.tuple #[.pointer (some ⟨w.heap.size, 0, none⟩), .int .i64 0]) ∧
    Lq (fun k => k = w.heap.size) w' w.heap.size n none none 0 0 (fun _ => none) (fun _ => none) ∧ Below w.heap.size w w' := by
  have h := isCount_any n w
  rw [decide_eq_true hn] at h
  have HN := Lib.hid hn
  clear hn
  go_enter Try.func7, Try.ntmps7
  go_wp2_with fail
  refine h.mono ?_
  rintro e w' ⟨rfl, rfl⟩
  go_wp2_with fail
  refine bodyPost_ret (results_tmp2 rfl _ _ _) rfl ?_
  refine ⟨by simp, ⟨(MapKept.heap_alloc _ _).1, ⟨rfl, fun _ => rfl⟩, ⟨rfl, fun _ => rfl⟩, rfl, (fun _ e => by cases e), (fun _ e => by cases e), (fun _ e => by cases e), (fun k e => by simp; omega), HN.out, (fun _ _ e => by cases e), (fun _ _ e => by cases e)⟩, (Below.refl _ _).alloc (Nat.le_refl _) _⟩
theorem Has_any (h : Lq S w lb ea mo ho nm nh M H) (k : K) (hk : wk k) : Calls Try.prog 13 #[.pointer (some ⟨lb, 0, none⟩), .string ⟨k.toArray⟩] w fun e w' => e = .returned (.int .i64 (has H k)) ∧ w' = w := by
  have c := h.cells.2.2
  have l : (Instr.lookup 29 (.map ho) (.string ⟨k.toArray⟩) false).run Try.prog w = .ok (.int .i64 (has H k)) w := h.has.look1 (fun _ _ => rfl) hk
  clear h
  generalize has H k = x at *
  go_enter Try.func13, Try.ntmps13
  go_wp2_with fail
  go_ret
  exact ⟨rfl, rfl⟩
theorem May_any (h : Lq S w lb ea mo ho nm nh M H) (k : K) (hk : wk k) : Calls Try.prog 14 #[.pointer (some ⟨lb, 0, none⟩), .string ⟨k.toArray⟩] w fun e w' => e = .returned (.int .i64 (may ea M k)) ∧ w' = w := by
  have c := h.cells.2.1
  have c0 := h.cells.1
  have l : (Instr.lookup 29 (.map mo) (.string ⟨k.toArray⟩) true).run Try.prog w = .ok (.tuple #[.int .i64 ((M k).getD 0), .bool (M k).isSome]) w := h.most.look (fun _ _ => rfl) hk
  clear h
  unfold may
  cases e : M k with
  | none =>
    rw [e] at l
    simp only [Option.getD_none, Option.isSome_none] at l ⊢
    clear e
    go_enter Try.func14, Try.ntmps14
    go_wp2_with fail
    go_ret
    exact ⟨rfl, rfl⟩
  | some x =>
    rw [e] at l
    simp only [Option.getD_some, Option.isSome_some] at l ⊢
    clear e
    go_enter Try.func14, Try.ntmps14
    go_wp2_with fail
    go_ret
    exact ⟨rfl, rfl⟩
theorem Has_nil (v : Value) (w : World) : Calls Try.prog 13 #[.pointer none, v] w fun e w' => e = .returned (.int .i64 0) ∧ w' = w := by
  go_enter Try.func13, Try.ntmps13
  go_wp2_with fail
  go_ret
  exact ⟨rfl, rfl⟩
theorem May_nil (v : Value) (w : World) : Calls Try.prog 14 #[.pointer none, v] w fun e w' => e = .returned (.int .i64 0) ∧ w' = w := by
  go_enter Try.func14, Try.ntmps14
  go_wp2_with fail
  go_ret
  exact ⟨rfl, rfl⟩
theorem Set_nil (v u : Value) (w : World) : Calls Try.prog 9 #[.pointer none, v, u] w fun e w' => e = .returned (.int .i64 1) ∧ w' = w := by
  go_enter Try.func9, Try.ntmps9
  go_wp2_with fail
  go_ret
  exact ⟨rfl, rfl⟩
theorem Take_nil (v : Value) (w : World) : Calls Try.prog 10 #[.pointer none, v] w fun e w' => e = .returned (.int .i64 1) ∧ w' = w := by
  go_enter Try.func10, Try.ntmps10
  go_wp2_with fail
  go_ret
  exact ⟨rfl, rfl⟩
theorem Give_nil (v : Value) (w : World) : Calls Try.prog 11 #[.pointer none, v] w fun e w' => e = .returned (.int .i64 1) ∧ w' = w := by
  go_enter Try.func11, Try.ntmps11
  go_wp2_with fail
  go_ret
  exact ⟨rfl, rfl⟩
theorem Copy_nil (w : World) : Calls Try.prog 12 #[.pointer none] w fun e w' => e = .returned (.pointer none) ∧ w' = w := by
  go_enter Try.func12, Try.ntmps12
  go_wp2_with fail
  go_ret
  exact ⟨rfl, rfl⟩
end
end Go.Proofs.Ythbpgdeaaadlbaa.Qt
