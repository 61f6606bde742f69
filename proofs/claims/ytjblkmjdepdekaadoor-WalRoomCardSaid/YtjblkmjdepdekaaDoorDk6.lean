
/- disks: told, tell -/
import Derived.Test.YtjblkmjdepdekaaDoorDk5
import Derived.Defers
import Derived.Recover
namespace Go.Proofs.YtjblkmjdepdekaaDoor.Dk
open Go.RowKit Go.Lib Go.Proofs.YtjblkmjdepdekaaDoor.By Go.Proofs.YtjblkmjdepdekaaDoor.Ht

theorem told1_idle (w : World) : CallsD Tryd.prog 59 #[] .returning w fun e u' w' => e = .returned (.tuple #[]) ∧ u' = .returning ∧ w' = w := by
  refine callsD_of_wpS Tryd.func59 rfl fun c₀ cs hu => ?_
  apply wpS_region
  simp [wpOpsS, go_sem, recoverD, hu, Tryd.ntmps59, bodyPostS, results, Tryd.results59]
  cases c₀
  simp_all
theorem told_nil (i : Int) (w : World) : Calls Tryd.prog 55 #[.nilFunc, .int .i64 i] w fun e w' => e = .returned (.bool false) ∧ w' = w := by
  have hnn : ∀ (w : World), (binOp .neq 44 .nilFunc .nilFunc).run Tryd.prog w = .ok (.bool false) w := fun _ => by kernel_rfl
  go_enter_defers Tryd.func55, Tryd.ntmps55
  go_wp2
  refine leaves_cons (f := 59) (args := #[]) (by simp) (by simp [go_sem]) ?_
  refine (told1_idle _).mono ?_
  rintro e u' w'' ⟨rfl, rfl, rfl⟩
  simp [Leaves, settle, results, Tryd.results55, go_sem]
/-- a function that tells, and changes nothing -/
structure Tells (kv : Value) (k : Nat → Bool) (p : World → Prop) : Prop where
  fn : ∃ f caps, kv = .func (.func f) #[] caps ∧ (∀ args w, (callFunc f args).run Tryd.prog w = .ok (.enter f args) w) ∧ (∀ w, (binOp .neq 44 kv .nilFunc).run Tryd.prog w = .ok (.bool true) w) ∧
    ∀ (i : Nat) w, i ≤ 1000000 → p w → Calls Tryd.prog f (#[.int .i64 (i : Nat)] ++ caps) w fun e w' => e = .returned (.bool (k i)) ∧ w' = w
theorem told_fn {kv : Value} {k : Nat → Bool} {p : World → Prop} (h : Tells kv k p) (i : Nat) (hi : i ≤ 1000000) (w : World) (hp : p w) : Calls Tryd.prog 55 #[kv, .int .i64 (i : Nat)] w fun e w' => e = .returned (.bool (k i)) ∧ w' = w := by
  obtain ⟨f, caps, rfl, he, hn, hk⟩ := h.fn
  have HK := Lib.hid (hk i w hi hp)
  clear hk h
  go_enter_defers Tryd.func55, Tryd.ntmps55
  go_wp2_with ((with_reducible refine HK.out.mono ?_); rintro e w' ⟨rfl, rfl⟩)
  refine leaves_cons (f := 59) (args := #[]) (by simp) (by simp [go_sem]) ?_
  refine (told1_idle _).mono ?_
  rintro e u' w'' ⟨rfl, rfl, rfl⟩
  simp [Leaves, settle, results, Tryd.results55, go_sem]
/-- what is told of each, the same of either kind of function -/
def Asks (kv : Value) (k : Nat → Bool) (p : World → Prop) : Prop := ∀ (i : Nat) (w : World), i ≤ 1000000 → p w → Calls Tryd.prog 55 #[kv, .int .i64 (i : Nat)] w fun e w' => e = .returned (.bool (k i)) ∧ w' = w
theorem asks_nil : Asks .nilFunc (fun _ => false) (fun _ => True) := fun i w _ _ => told_nil i w
theorem asks_fn {kv : Value} {k : Nat → Bool} {p : World → Prop} (h : Tells kv k p) : Asks kv k p := fun i w hi hp => told_fn h i hi w hp
theorem info4 : (Tryd.prog.info? 4).map (fun i => (i.zero, i.size, i.bytes)) = some (some (.bool false), 1, 1) := by kernel_rfl
def toldL (k : Nat → Bool) (n m : Nat) : List Value := (List.range n).map fun i => Value.bool (decide (i < m) && k i)
theorem toldL_len (k : Nat → Bool) (n m : Nat) : (toldL k n m).length = n := by simp [toldL]
theorem toldL_next (k : Nat → Bool) (n m : Nat) : (toldL k n m).set m (.bool (k m)) = toldL k n (m + 1) := by
  apply List.ext_getElem
  · simp [toldL]
  · intro i h1 h2
    simp only [toldL, List.getElem_set, List.getElem_map, List.getElem_range]
    by_cases e : m = i
    · subst e; simp
    · rw [if_neg e]
      by_cases h3 : i < m
      · simp [h3, show i < m + 1 by omega]
      · simp [h3, show ¬ i < m + 1 by omega]
theorem made_bools {k : Nat → Bool} (n : Nat) : madeCells #[Value.bool false] n = (toldL k n 0).toArray := by
  apply Array.ext
  · simp [size_madeCells, toldL]
  · intro i h1 h2
    simp [madeCells, toldL, Nat.mod_one]
theorem make_bools (w : World) {n : Nat} (hn : n ≤ 1000000) (k : Nat → Bool) : (Instr.makeSlice 76 (.int .i64 (n : Nat)) (.int .i64 (n : Nat))).run Tryd.prog w =
    .ok (.slice (some ⟨w.heap.size, 0, none⟩) n n) (w.alloc (.cells (toldL k n 0).toArray 4)) := by
  obtain ⟨i0, hi, hz0, hz1, hz2⟩ := info_parts info4
  have hr := run_make (P := Tryd.prog) w 76 4 i0 _ Tryd.underlying76 hi hz0 .i64 .i64 n n (by omega) (by omega) (by rw [hz2]; omega) (by omega)
  rw [hz1, Nat.mul_one, Int.toNat_natCast, show (Value.bool false).cells = #[Value.bool false] from rfl, made_bools (k := k)] at hr
  exact hr
set_option maxRecDepth 20000 in
set_option maxHeartbeats 1000000 in
theorem tell_any {kv : Value} {k : Nat → Bool} {p : World → Prop} (h : Asks kv k p) (n : Nat) (hn : n ≤ 1000000) (w : World) (hp : ∀ w', Below w.heap.size w w' → p w') : Calls Tryd.prog 36 #[kv, .int .i64 (n : Nat)] w fun e w' =>
    e = .returned (.slice (some ⟨w.heap.size, 0, none⟩) n n) ∧ w'.heap[w.heap.size]? = some (.cells (toldL k n n).toArray 4 (0, 0)) ∧ Below w.heap.size w w' := by
  have hmk := make_bools w hn k
  obtain ⟨w1, hw1⟩ : ∃ X, X = w.alloc (.cells (toldL k n 0).toArray 4) := ⟨_, rfl⟩
  have h1 : w1.heap[w.heap.size]? = some (.cells (toldL k n 0).toArray 4 (0, 0)) ∧ Below w.heap.size w w1 := by rw [hw1]; exact ⟨heap_alloc_new w _, (Below.refl _ _).alloc (Nat.le_refl _) _⟩
  rw [← hw1] at hmk
  have H := Lib.hid (And.intro h (And.intro hp h1))
  clear hw1 h hp h1
  go_enter Tryd.func36, Tryd.ntmps36
  go_wp2_with fail
  go_loopw [11] (fun v wr => ∃ m : Nat, m ≤ n ∧ v = .int .i64 m ∧ wr.heap[w.heap.size]? = some (.cells (toldL k n m).toArray 4 (0, 0)) ∧ Below w.heap.size w wr) (fun v _ => n - (intOf v).toNat)
  case atStart => exact ⟨0, Nat.zero_le _, rfl, H.out.2.2.1, H.out.2.2.2⟩
  case round =>
    obtain ⟨m, hm, rfl, hg, hb⟩ := hrel
    by_cases hlt : m < n
    · have HK := Lib.hid (H.out.1 m wr (by omega) (H.out.2.1 wr hb))
      have hlI : (m : Int) < (n : Int) := by omega
      have hc : wr.cell? ⟨w.heap.size, m, none⟩ = some ((toldL k n m)[m]'(by rw [toldL_len]; exact hlt)) := by
        rw [cell_of_row wr _ m _ _ _ hg]; simp [toldL_len, hlt]
      have hf : wr.frozen? ⟨w.heap.size, m, none⟩ = false := frozen_of_row wr _ m _ _ hg
      have hset := heap_setCell_same wr w.heap.size m _ _ (.bool (k m)) hg
      rw [List.setIfInBounds_toArray, toldL_next] at hset
      have HS := Lib.hid (And.intro hset (hb.setCell (p := ⟨w.heap.size, m, none⟩) (Nat.le_refl _) (.bool (k m))))
      clear hg hb hset
      go_wp2_with (go_at_call 55; (with_reducible refine HK.out.mono ?_); rintro e w' ⟨rfl, rfl⟩)
      go_roundw
      case rel => exact ⟨m + 1, by omega, by go_num, HS.out.1, HS.out.2⟩
      case measure => simp [intOf]; omega
    · obtain rfl : m = n := by omega
      have HK := Lib.hid (And.intro hg hb)
      clear hg hb
      go_wp2_with fail
      go_ret
      exact ⟨rfl, HK.out.1, HK.out.2⟩
end Go.Proofs.YtjblkmjdepdekaaDoor.Dk
