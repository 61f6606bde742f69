
/- backoff: its small functions, and the wait of arguments that may be -/
import Derived.Test.YtebchbehhcafjaaRows
import Derived.WalkKit
import Derived.ProofKit
import Derived.WalkSpells
import Derived.Lib.Hide
namespace Go.Proofs.Ytebchbehhcafjaa.Bo
open Go.RowKit Go.Lib
set_option linter.unusedVariables false
set_option maxRecDepth 20000

/-- a number of 64 bits with its sign -/
def I64 (x : Int) : Prop := -9223372036854775808 ≤ x ∧ x ≤ 9223372036854775807
/-- a span -/
def Sp (x : Int) : Prop := 0 ≤ x ∧ x ≤ 1048576

/-- of a number of 21 bits -/
theorem len64_any (w : World) : Calls Try.prog 16 #[.int .u64 1048576] w fun e w' => e = .returned (.int .i64 21) ∧ w' = w := by
  go_enter Try.func16, Try.ntmps16
  go_wp2
  go_ret
  exact ⟨by kernel_rfl, rfl⟩
theorem len_any (w : World) : Calls Try.prog 14 #[.int .u64 1048576] w fun e w' => e = .returned (.int .i64 21) ∧ w' = w := by
  go_enter Try.func14, Try.ntmps14
  go_wp2_with fail
  refine (len64_any w).mono ?_
  rintro e w' ⟨rfl, rfl⟩
  go_wp2_with fail
  go_ret
  exact ⟨rfl, rfl⟩

theorem isSpan_any (n : Int) (w : World) : Calls Try.prog 12 #[.int .i64 n] w fun e w' => e = .returned (.bool (decide (0 ≤ n) && decide (n ≤ 1048576))) ∧ w' = w := by
  by_cases h1 : 0 ≤ n
  · by_cases h2 : n ≤ 1048576
    · rw [show (decide (0 ≤ n) && decide (n ≤ 1048576)) = true by simp [h1, h2]]
      go_enter Try.func12, Try.ntmps12
      go_wp2
      go_ret
      exact ⟨rfl, rfl⟩
    · rw [show (decide (0 ≤ n) && decide (n ≤ 1048576)) = false by simp [h2]]
      go_enter Try.func12, Try.ntmps12
      go_wp2
      go_ret
      exact ⟨rfl, rfl⟩
  · rw [show (decide (0 ≤ n) && decide (n ≤ 1048576)) = false by simp [h1]]
    go_enter Try.func12, Try.ntmps12
    go_wp2
    go_ret
    exact ⟨rfl, rfl⟩

theorem right_any (b m : Int) (w : World) : Calls Try.prog 9 #[.int .i64 b, .int .i64 m] w fun e w' => e = .returned (.bool (decide ((0 ≤ b ∧ b ≤ 1048576) ∧ 0 ≤ m ∧ m ≤ 1048576))) ∧ w' = w := by
  by_cases h1 : 0 ≤ b
  · by_cases h2 : b ≤ 1048576
    · by_cases h3 : 0 ≤ m
      · by_cases h4 : m ≤ 1048576
        · rw [show decide ((0 ≤ b ∧ b ≤ 1048576) ∧ 0 ≤ m ∧ m ≤ 1048576) = true by simp [h1, h2, h3, h4]]
          go_enter Try.func9, Try.ntmps9
          go_wp2
          go_ret
          exact ⟨rfl, rfl⟩
        · rw [show decide ((0 ≤ b ∧ b ≤ 1048576) ∧ 0 ≤ m ∧ m ≤ 1048576) = false by simp [h4]]
          go_enter Try.func9, Try.ntmps9
          go_wp2
          go_ret
          exact ⟨rfl, rfl⟩
      · rw [show decide ((0 ≤ b ∧ b ≤ 1048576) ∧ 0 ≤ m ∧ m ≤ 1048576) = false by simp [h3]]
        go_enter Try.func9, Try.ntmps9
        go_wp2
        go_ret
        exact ⟨rfl, rfl⟩
    · rw [show decide ((0 ≤ b ∧ b ≤ 1048576) ∧ 0 ≤ m ∧ m ≤ 1048576) = false by simp [h2]]
      go_enter Try.func9, Try.ntmps9
      go_wp2
      go_ret
      exact ⟨rfl, rfl⟩
  · rw [show decide ((0 ≤ b ∧ b ≤ 1048576) ∧ 0 ≤ m ∧ m ≤ 1048576) = false by simp [h1]]
    go_enter Try.func9, Try.ntmps9
    go_wp2
    go_ret
    exact ⟨rfl, rfl⟩

/-- the wait of arguments that may be -/
def wt (b m k : Int) : Int := min (b * 2 ^ (min k 21).toNat) m
theorem pow_le {i j : Nat} (h : i ≤ j) : (2 : Int) ^ i ≤ 2 ^ j := by
  have h1 : (2 : Nat) ^ i ≤ 2 ^ j := Nat.pow_le_pow_right (by omega) h
  exact_mod_cast h1
theorem pow_pos (i : Nat) : (1 : Int) ≤ 2 ^ i := by simpa using pow_le (Nat.zero_le i)
theorem mul_pow_le {b : Int} (hb : 0 ≤ b) {i j : Nat} (h : i ≤ j) : b * 2 ^ i ≤ b * 2 ^ j := Int.mul_le_mul_of_nonneg_left (pow_le h) hb
theorem mul_pow_bd {b : Int} (hb : Sp b) {i : Nat} (h : i ≤ 21) : 0 ≤ b * 2 ^ i ∧ b * 2 ^ i ≤ 2199023255552 := by
  have h1 := mul_pow_le hb.1 h
  have h2 := hb.2
  refine ⟨Int.mul_nonneg hb.1 (by have := pow_pos i; omega), ?_⟩
  rw [show (2 : Int) ^ 21 = 2097152 from by decide] at h1
  omega
theorem wt_bd {b m : Int} (hb : Sp b) (hm : Sp m) (k : Int) : 0 ≤ wt b m k ∧ wt b m k ≤ m := by
  have h := mul_pow_bd hb (i := (min k 21).toNat) (by omega)
  have h2 := hm.1
  unfold wt
  omega
theorem wt_grow {b m : Int} (hb : Sp b) {i j : Int} (h : i ≤ j) : wt b m i ≤ wt b m j := by
  have := mul_pow_le hb.1 (i := (min i 21).toNat) (j := (min j 21).toNat) (by omega)
  unfold wt
  omega
theorem wt_double {b m k : Int} (hb : Sp b) (hm : Sp m) (hk : 0 ≤ k) : wt b m (k + 1) = min (2 * wt b m k) m := by
  have hm1 := hm.1
  have hm2 := hm.2
  unfold wt
  by_cases h : k < 21
  · rw [show min (k + 1) 21 = k + 1 by omega, show min k 21 = k by omega, show (k + 1).toNat = k.toNat + 1 by omega, Int.pow_succ, ← Int.mul_assoc]
    omega
  · rw [show min (k + 1) 21 = 21 by omega, show min k 21 = 21 by omega, show (21 : Int).toNat = 21 by decide, show (2 : Int) ^ 21 = 2097152 by decide]
    have := hb.1
    omega
theorem wt_end {b m k : Int} (hb : Sp b) (hm : Sp m) (i : Nat) (hi : (i : Int) ≤ k) (h : b * 2 ^ i ≤ 2097152) (he : (i : Int) = k ∨ i = 64 ∨ 1048576 < b * 2 ^ i) :
    wt b m k = min (b * 2 ^ i) m := by
  have hm2 := hm.2
  have hb1 := hb.1
  unfold wt
  by_cases h0 : b = 0
  · subst h0; simp
  have hi21 : i ≤ 21 := by
    by_cases h1 : i ≤ 21
    · exact h1
    · have h2 := mul_pow_le hb.1 (show 22 ≤ i by omega)
      rw [show (2 : Int) ^ 22 = 4194304 by decide] at h2
      omega
  rcases he with he | he | he
  · rw [show (min k 21).toNat = i by omega]
  · omega
  · have h2 := mul_pow_le hb.1 (show i ≤ (min k 21).toNat by omega)
    omega

theorem wait_any (b m k : Int) (w : World) (hb : Sp b) (hm : Sp m) (hk : 0 ≤ k) (hk2 : I64 k) :
    Calls Try.prog 13 #[.int .i64 b, .int .i64 m, .int .i64 k] w fun e w' => e = .returned (.int .i64 (wt b m k)) ∧ w' = w := by
  have hB := mul_pow_bd hb (i := (min k 21).toNat) (by omega)
  have hE : wt b m k = min (b * 2 ^ (min k 21).toNat) m := rfl
  obtain ⟨X, hX⟩ : ∃ X, X = wt b m k := ⟨_, rfl⟩
  rw [← hX] at hE ⊢
  unfold I64 at hk2
  unfold Sp at hb hm
  have HE := Lib.hid hE
  have HB := Lib.hid hB
  clear hE hB hX
  go_enter Try.func13, Try.ntmps13
  go_wp2_with fail
  refine (len_any w).mono ?_
  rintro e w' ⟨rfl, rfl⟩
  by_cases h21 : 21 < k
  · have hE := HE.out
    have hB := HB.out
    clear HE HB
    rw [show (min k 21).toNat = 21 by omega, show (2 : Int) ^ 21 = 2097152 by decide] at hE hB
    go_wp2_with fail
    all_goals
      go_ret
      refine ⟨congrArg (fun b => Ending.returned (.int .i64 b)) ?_, rfl⟩
      omega
  · have hE := HE.out
    have hB := HB.out
    clear HE HB
    rw [show (min k 21).toNat = k.toNat by omega] at hE hB
    go_wp2_with fail
    all_goals
      go_ret
      refine ⟨congrArg (fun b => Ending.returned (.int .i64 b)) ?_, rfl⟩
      omega

/-- what Wait answers: a wait, and that there is one; or that there is none -/
theorem Wait_ok (b m k : Int) (w : World) (hb : Sp b) (hm : Sp m) (hk : 0 ≤ k) (hk2 : I64 k) :
    Calls Try.prog 7 #[.int .i64 b, .int .i64 m, .int .i64 k] w fun e w' => e = .returned (.tuple #[.int .i64 (wt b m k), .int .i64 0]) ∧ w' = w := by
  have h1 : (decide (0 ≤ b) && decide (b ≤ 1048576)) = true := by simp [hb.1, hb.2]
  have h2 : (decide (0 ≤ m) && decide (m ≤ 1048576)) = true := by simp [hm.1, hm.2]
  go_enter Try.func7, Try.ntmps7
  go_wp2_with fail
  refine (isSpan_any b w).mono ?_
  rintro e w' ⟨rfl, rfl⟩
  rw [h1]
  go_wp2_with fail
  refine (isSpan_any m w').mono ?_
  rintro e w'' ⟨rfl, rfl⟩
  rw [h2]
  go_wp2_with fail
  refine (wait_any b m k w'' hb hm hk hk2).mono ?_
  rintro e w' ⟨rfl, rfl⟩
  go_wp2_with fail
  refine bodyPost_ret (results_tmp2 rfl _ _ _) rfl ?_
  exact ⟨rfl, rfl⟩
theorem Wait_no (b m k : Int) (w : World) (h : ¬ (Sp b ∧ Sp m ∧ 0 ≤ k)) :
    Calls Try.prog 7 #[.int .i64 b, .int .i64 m, .int .i64 k] w fun e w' => e = .returned (.tuple #[.int .i64 0, .int .i64 1]) ∧ w' = w := by
  by_cases hb : Sp b
  · have h1 : (decide (0 ≤ b) && decide (b ≤ 1048576)) = true := by simp [hb.1, hb.2]
    by_cases hm : Sp m
    · have h2 : (decide (0 ≤ m) && decide (m ≤ 1048576)) = true := by simp [hm.1, hm.2]
      have hk : k < 0 := by
        by_cases hk : k < 0
        · exact hk
        · exact absurd ⟨hb, hm, by omega⟩ h
      clear h hb hm
      go_enter Try.func7, Try.ntmps7
      go_wp2_with fail
      refine (isSpan_any b w).mono ?_
      rintro e w' ⟨rfl, rfl⟩
      rw [h1]
      go_wp2_with fail
      refine (isSpan_any m w').mono ?_
      rintro e w'' ⟨rfl, rfl⟩
      rw [h2]
      go_wp2_with fail
      refine bodyPost_ret (results_tmp2 rfl _ _ _) rfl ?_
      exact ⟨rfl, rfl⟩
    · have h2 : (decide (0 ≤ m) && decide (m ≤ 1048576)) = false := by
        unfold Sp at hm
        cases h3 : decide (0 ≤ m) && decide (m ≤ 1048576)
        · rfl
        · exact absurd (by simpa using h3) hm
      clear h hb hm
      go_enter Try.func7, Try.ntmps7
      go_wp2_with fail
      refine (isSpan_any b w).mono ?_
      rintro e w' ⟨rfl, rfl⟩
      rw [h1]
      go_wp2_with fail
      refine (isSpan_any m w').mono ?_
      rintro e w'' ⟨rfl, rfl⟩
      rw [h2]
      go_wp2_with fail
      refine bodyPost_ret (results_tmp2 rfl _ _ _) rfl ?_
      exact ⟨rfl, rfl⟩
  · have h1 : (decide (0 ≤ b) && decide (b ≤ 1048576)) = false := by
      unfold Sp at hb
      cases h3 : decide (0 ≤ b) && decide (b ≤ 1048576)
      · rfl
      · exact absurd (by simpa using h3) hb
    clear h hb
    go_enter Try.func7, Try.ntmps7
    go_wp2_with fail
    refine (isSpan_any b w).mono ?_
    rintro e w' ⟨rfl, rfl⟩
    rw [h1]
    go_wp2_with fail
    refine bodyPost_ret (results_tmp2 rfl _ _ _) rfl ?_
    exact ⟨rfl, rfl⟩

/-- a tick -/
def Tk (x : Int) : Prop := 0 ≤ x ∧ x ≤ 1099511627776
theorem Due_ok (n b m k : Int) (w : World) (hn : Tk n) (hb : Sp b) (hm : Sp m) (hk : 0 ≤ k) (hk2 : I64 k) :
    Calls Try.prog 8 #[.int .i64 n, .int .i64 b, .int .i64 m, .int .i64 k] w fun e w' => e = .returned (.tuple #[.int .i64 (min (n + wt b m k) 1099511627776), .int .i64 0]) ∧ w' = w := by
  have hW := wt_bd hb hm k
  have hm2 := hm.2
  unfold Tk at hn
  have hC := Wait_ok b m k w hb hm hk hk2
  obtain ⟨X, hX⟩ : ∃ X, X = wt b m k := ⟨_, rfl⟩
  rw [← hX] at hW hC ⊢
  clear hX
  have HC := Lib.hid hC
  clear hC hb hm hk hk2
  go_enter Try.func8, Try.ntmps8
  go_wp2_with fail
  refine HC.out.mono ?_
  rintro e w' ⟨rfl, rfl⟩
  go_wp2_with fail
  all_goals
    refine bodyPost_ret (results_tmp2 rfl _ _ _) rfl ?_
    refine ⟨congrArg (fun b => Ending.returned (.tuple #[.int .i64 b, .int .i64 0])) ?_, rfl⟩
    omega
theorem Due_no (n b m k : Int) (w : World) (hk2 : I64 k) (h : ¬ (Tk n ∧ Sp b ∧ Sp m ∧ 0 ≤ k)) :
    Calls Try.prog 8 #[.int .i64 n, .int .i64 b, .int .i64 m, .int .i64 k] w fun e w' => e = .returned (.tuple #[.int .i64 0, .int .i64 1]) ∧ w' = w := by
  by_cases hr : Sp b ∧ Sp m ∧ 0 ≤ k
  · have hC := Wait_ok b m k w hr.1 hr.2.1 hr.2.2 hk2
    have hn : n < 0 ∨ 1099511627776 < n := by
      have h2 : ¬ Tk n := fun x => h ⟨x, hr⟩
      unfold Tk at h2
      omega
    have HC := Lib.hid hC
    clear hC hr h hk2
    obtain ⟨X, hX⟩ : ∃ X, X = wt b m k := ⟨_, rfl⟩
    rw [← hX] at HC
    clear hX
    rcases hn with hn | hn
    · go_enter Try.func8, Try.ntmps8
      go_wp2_with fail
      refine HC.out.mono ?_
      rintro e w' ⟨rfl, rfl⟩
      go_wp2_with fail
      refine bodyPost_ret (results_tmp2 rfl _ _ _) rfl ?_
      exact ⟨rfl, rfl⟩
    · have hn2 : ¬ n < 0 := by omega
      go_enter Try.func8, Try.ntmps8
      go_wp2_with fail
      refine HC.out.mono ?_
      rintro e w' ⟨rfl, rfl⟩
      go_wp2_with fail
      refine bodyPost_ret (results_tmp2 rfl _ _ _) rfl ?_
      exact ⟨rfl, rfl⟩
  · have hC := Wait_no b m k w hr
    have HC := Lib.hid hC
    clear hC hr h hk2
    go_enter Try.func8, Try.ntmps8
    go_wp2_with fail
    refine HC.out.mono ?_
    rintro e w' ⟨rfl, rfl⟩
    go_wp2_with fail
    refine bodyPost_ret (results_tmp2 rfl _ _ _) rfl ?_
    exact ⟨rfl, rfl⟩

theorem ref_any (b m k : Int) (w : World) (hb : Sp b) (hm : Sp m) (hk : 0 ≤ k) (hk2 : I64 k) :
    Calls Try.prog 10 #[.int .i64 b, .int .i64 m, .int .i64 k] w fun e w' => e = .returned (.int .i64 (wt b m k)) ∧ w' = w := by
  unfold I64 at hk2
  have HS := Lib.hid (And.intro hb hm)
  unfold Sp at hb hm
  go_enter Try.func10, Try.ntmps10
  go_wp2_with fail
  go_loopw [0, 7] (fun bv iv wr => ∃ (i : Nat) (x : Int), bv = .int .i64 x ∧ iv = .int .i64 ((i : Nat) : Int) ∧ x = b * 2 ^ i ∧ 0 ≤ x ∧ x ≤ 2097152 ∧ i ≤ 64 ∧ (i : Int) ≤ k ∧ wr = w) (fun _ iv _ => 64 - (RowKit.intOf iv).toNat)
  case atStart => exact ⟨0, b, rfl, rfl, by simp, hb.1, by omega, by omega, hk, rfl⟩
  case round =>
    obtain ⟨i, x, h1, h2, hx, hx0, hx2, hi64, hik, hwr⟩ := hrel
    subst h1 h2 hwr
    have HX := Lib.hid hx
    clear hx
    have hi0 : (0 : Int) ≤ ((i : Nat) : Int) := by omega
    by_cases c1 : ((i : Nat) : Int) < k
    · by_cases c2 : ((i : Nat) : Int) < 64
      · by_cases c3 : x ≤ 1048576
        · go_wp2_with fail
          go_roundw
          case rel => exact ⟨i + 1, x + x, by simp, by simp, by rw [HX.out, Int.pow_succ, ← Int.mul_assoc]; omega, by omega, by omega, by omega, by omega, trivial⟩
          case measure => simp [RowKit.intOf]; omega
        · have hE := wt_end HS.out.1 HS.out.2 i hik (by rw [← HX.out]; exact hx2) (Or.inr (Or.inr (by rw [← HX.out]; omega)))
          rw [← HX.out] at hE
          have HE := Lib.hid hE
          clear hE
          go_wp2_with fail
          all_goals
            go_ret
            refine ⟨congrArg (fun b => Ending.returned (.int .i64 b)) ?_, rfl⟩
            rw [HE.out]
            omega
      · have hE := wt_end HS.out.1 HS.out.2 i hik (by rw [← HX.out]; exact hx2) (Or.inr (Or.inl (by omega)))
        rw [← HX.out] at hE
        have HE := Lib.hid hE
        clear hE
        go_wp2_with fail
        all_goals
          go_ret
          refine ⟨congrArg (fun b => Ending.returned (.int .i64 b)) ?_, rfl⟩
          rw [HE.out]
          omega
    · have hE := wt_end HS.out.1 HS.out.2 i hik (by rw [← HX.out]; exact hx2) (Or.inl (by omega))
      rw [← HX.out] at hE
      have HE := Lib.hid hE
      clear hE
      go_wp2_with fail
      all_goals
        go_ret
        refine ⟨congrArg (fun b => Ending.returned (.int .i64 b)) ?_, rfl⟩
        rw [HE.out]
        omega

/-- the first n waits together -/
def sm (b m : Int) : Nat → Int
  | 0 => 0
  | n + 1 => sm b m n + wt b m n
theorem sm_bd {b m : Int} (hb : Sp b) (hm : Sp m) : ∀ n : Nat, 0 ≤ sm b m n ∧ sm b m n ≤ 1048576 * n
  | 0 => by simp [sm]
  | n + 1 => by
    have h1 := sm_bd hb hm n
    have h2 := wt_bd hb hm n
    have h3 := hm.2
    simp only [sm]
    omega
theorem Total_ok (b m : Int) (n : Nat) (w : World) (hb : Sp b) (hm : Sp m) (hn : n < 16) :
    Calls Try.prog 11 #[.int .i64 b, .int .i64 m, .int .i64 (((n : Nat) : Int) + 1)] w fun e w' => e = .returned (.tuple #[.int .i64 (sm b m n), .int .i64 0]) ∧ w' = w := by
  have h1 : (decide (0 ≤ b) && decide (b ≤ 1048576)) = true := by simp [hb.1, hb.2]
  have h2 : (decide (0 ≤ m) && decide (m ≤ 1048576)) = true := by simp [hm.1, hm.2]
  have hn0 : (0 : Int) ≤ ((n : Nat) : Int) := by omega
  have hn1 : ((n : Nat) : Int) < 16 := by omega
  have HS := Lib.hid (And.intro hb hm)
  clear hb hm
  go_enter Try.func11, Try.ntmps11
  go_wp2_with fail
  refine (isSpan_any b w).mono ?_
  rintro e w' ⟨rfl, rfl⟩
  rw [h1]
  go_wp2_with fail
  refine (isSpan_any m w').mono ?_
  rintro e w'' ⟨rfl, rfl⟩
  rw [h2]
  go_wp2_with fail
  go_loopw [8, 28] (fun sv iv wr => ∃ (i : Nat), sv = .int .i64 (sm b m i) ∧ iv = .int .i64 ((i : Nat) : Int) ∧ i ≤ n ∧ wr = w'') (fun _ iv _ => n - (RowKit.intOf iv).toNat)
  case atStart => exact ⟨0, rfl, rfl, by omega, rfl⟩
  case round =>
    obtain ⟨i, e1, e2, hin, hwr⟩ := hrel
    subst e1 e2 hwr
    have hi0 : (0 : Int) ≤ ((i : Nat) : Int) := by omega
    by_cases c1 : i < n
    · have c1' : ((i : Nat) : Int) < ((n : Nat) : Int) := by omega
      have hC := wait_any b m i wr HS.out.1 HS.out.2 hi0 (by unfold I64; omega)
      have hs1 := sm_bd HS.out.1 HS.out.2 i
      have hw := wt_bd HS.out.1 HS.out.2 i
      have hm2 := HS.out.2.2
      have hs2 : 0 ≤ sm b m i ∧ sm b m i ≤ 16777216 := by omega
      have hw2 : 0 ≤ wt b m i ∧ wt b m i ≤ 1048576 := by omega
      have hsm : sm b m (i + 1) = sm b m i + wt b m i := rfl
      have HC := Lib.hid (And.intro hC hsm)
      clear hC hsm hs1 hw hm2
      generalize sm b m i = S at *
      generalize wt b m i = T at *
      go_wp2_with fail
      refine HC.out.1.mono ?_
      rintro e w' ⟨rfl, rfl⟩
      go_wp2_with fail
      go_roundw
      case rel => exact ⟨i + 1, by rw [HC.out.2], by simp, by omega, trivial⟩
      case measure => simp [RowKit.intOf]; omega
    · have c2 : i = n := by omega
      subst c2
      go_wp2_with fail
      refine bodyPost_ret (results_tmp2 rfl _ _ _) rfl ?_
      exact ⟨rfl, rfl⟩
theorem Total_no (b m n : Int) (w : World) (h : ¬ (Sp b ∧ Sp m ∧ 1 ≤ n ∧ n ≤ 16)) :
    Calls Try.prog 11 #[.int .i64 b, .int .i64 m, .int .i64 n] w fun e w' => e = .returned (.tuple #[.int .i64 0, .int .i64 1]) ∧ w' = w := by
  by_cases hb : Sp b
  · have h1 : (decide (0 ≤ b) && decide (b ≤ 1048576)) = true := by simp [hb.1, hb.2]
    by_cases hm : Sp m
    · have h2 : (decide (0 ≤ m) && decide (m ≤ 1048576)) = true := by simp [hm.1, hm.2]
      have hk : n < 1 ∨ 16 < n := by
        by_cases hk : n < 1 ∨ 16 < n
        · exact hk
        · exact absurd ⟨hb, hm, by omega, by omega⟩ h
      clear h hb hm
      rcases hk with hk | hk
      · go_enter Try.func11, Try.ntmps11
        go_wp2_with fail
        refine (isSpan_any b w).mono ?_
        rintro e w' ⟨rfl, rfl⟩
        rw [h1]
        go_wp2_with fail
        refine (isSpan_any m w').mono ?_
        rintro e w'' ⟨rfl, rfl⟩
        rw [h2]
        go_wp2_with fail
        refine bodyPost_ret (results_tmp2 rfl _ _ _) rfl ?_
        exact ⟨rfl, rfl⟩
      · have hk2 : ¬ n < 1 := by omega
        go_enter Try.func11, Try.ntmps11
        go_wp2_with fail
        refine (isSpan_any b w).mono ?_
        rintro e w' ⟨rfl, rfl⟩
        rw [h1]
        go_wp2_with fail
        refine (isSpan_any m w').mono ?_
        rintro e w'' ⟨rfl, rfl⟩
        rw [h2]
        go_wp2_with fail
        refine bodyPost_ret (results_tmp2 rfl _ _ _) rfl ?_
        exact ⟨rfl, rfl⟩
    · have h2 : (decide (0 ≤ m) && decide (m ≤ 1048576)) = false := by
        unfold Sp at hm
        cases h3 : decide (0 ≤ m) && decide (m ≤ 1048576)
        · rfl
        · exact absurd (by simpa using h3) hm
      clear h hb hm
      go_enter Try.func11, Try.ntmps11
      go_wp2_with fail
      refine (isSpan_any b w).mono ?_
      rintro e w' ⟨rfl, rfl⟩
      rw [h1]
      go_wp2_with fail
      refine (isSpan_any m w').mono ?_
      rintro e w'' ⟨rfl, rfl⟩
      rw [h2]
      go_wp2_with fail
      refine bodyPost_ret (results_tmp2 rfl _ _ _) rfl ?_
      exact ⟨rfl, rfl⟩
  · have h1 : (decide (0 ≤ b) && decide (b ≤ 1048576)) = false := by
      unfold Sp at hb
      cases h3 : decide (0 ≤ b) && decide (b ≤ 1048576)
      · rfl
      · exact absurd (by simpa using h3) hb
    clear h hb
    go_enter Try.func11, Try.ntmps11
    go_wp2_with fail
    refine (isSpan_any b w).mono ?_
    rintro e w' ⟨rfl, rfl⟩
    rw [h1]
    go_wp2_with fail
    refine bodyPost_ret (results_tmp2 rfl _ _ _) rfl ?_
    exact ⟨rfl, rfl⟩
end Go.Proofs.Ytebchbehhcafjaa.Bo
