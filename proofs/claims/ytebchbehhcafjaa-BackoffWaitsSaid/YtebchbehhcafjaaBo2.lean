
/- backoff: the chapter's example, and the laws' walks -/
import Derived.Test.YtebchbehhcafjaaBo1
import Derived.OneCell
import Derived.Below
namespace Go.Proofs.Ytebchbehhcafjaa.Bo
open Go.RowKit Go.Lib
set_option linter.unusedVariables false
set_option maxRecDepth 20000

theorem wt_lives {k : Int} (x : Int) (h : wt 3 20 k = x) (hk : 0 ≤ k) (hk2 : k ≤ 9) (w : World) :
    Calls Try.prog 7 #[.int .i64 3, .int .i64 20, .int .i64 k] w fun e w' => e = .returned (.tuple #[.int .i64 x, .int .i64 0]) ∧ w' = w := by
  subst h
  exact Wait_ok 3 20 k w ⟨by omega, by omega⟩ ⟨by omega, by omega⟩ hk ⟨by omega, by omega⟩
set_option maxHeartbeats 1000000 in
theorem lives12_any (w : World) : Calls Try.prog 6 #[] w fun e w' => e = .returned (.bool true) ∧ Below w.heap.size w w' := by
  go_enter Try.func6, Try.ntmps6
  go_wp2_with fail
  obtain ⟨W, hW⟩ : ∃ W, W = w.alloc (Obj.cells #[Value.int IntKind.i64 3, Value.int IntKind.i64 6, Value.int IntKind.i64 12, Value.int IntKind.i64 20, Value.int IntKind.i64 20] 2) := ⟨_, rfl⟩
  rw [← hW]
  have c0 : W.cell? { block := w.heap.size, off := 0 } = some (.int .i64 3) := by subst hW; go_simp
  have c1 : W.cell? { block := w.heap.size, off := 1 } = some (.int .i64 6) := by subst hW; go_simp
  have c2 : W.cell? { block := w.heap.size, off := 2 } = some (.int .i64 12) := by subst hW; go_simp
  have c3 : W.cell? { block := w.heap.size, off := 3 } = some (.int .i64 20) := by subst hW; go_simp
  have c4 : W.cell? { block := w.heap.size, off := 4 } = some (.int .i64 20) := by subst hW; go_simp
  have hB : Below w.heap.size w W := by subst hW; exact (Below.refl _ _).alloc (Nat.le_refl _) _
  have HB := Lib.hid hB
  clear hW hB
  go_loopw [7] (fun iv wr => ∃ i : Nat, iv = .int .i64 ((i : Nat) : Int) ∧ i ≤ 5 ∧ wr = W) (fun iv _ => 5 - (RowKit.intOf iv).toNat)
  case atStart => exact ⟨0, rfl, by omega, rfl⟩
  case round =>
    obtain ⟨i, e1, hi, e2⟩ := hrel
    subst e1 e2
    obtain rfl | rfl | rfl | rfl | rfl | rfl : i = 0 ∨ i = 1 ∨ i = 2 ∨ i = 3 ∨ i = 4 ∨ i = 5 := by omega
    · go_wp2_with fail
      refine (wt_lives 3 (by decide) (by omega) (by omega) wr).mono ?_
      rintro e w' ⟨rfl, rfl⟩
      go_wp2_with fail
      go_roundw
      case rel => exact ⟨1, rfl, by omega, trivial⟩
      case measure => decide
    · go_wp2_with fail
      refine (wt_lives 6 (by decide) (by omega) (by omega) wr).mono ?_
      rintro e w' ⟨rfl, rfl⟩
      go_wp2_with fail
      go_roundw
      case rel => exact ⟨2, rfl, by omega, trivial⟩
      case measure => decide
    · go_wp2_with fail
      refine (wt_lives 12 (by decide) (by omega) (by omega) wr).mono ?_
      rintro e w' ⟨rfl, rfl⟩
      go_wp2_with fail
      go_roundw
      case rel => exact ⟨3, rfl, by omega, trivial⟩
      case measure => decide
    · go_wp2_with fail
      refine (wt_lives 20 (by decide) (by omega) (by omega) wr).mono ?_
      rintro e w' ⟨rfl, rfl⟩
      go_wp2_with fail
      go_roundw
      case rel => exact ⟨4, rfl, by omega, trivial⟩
      case measure => decide
    · go_wp2_with fail
      refine (wt_lives 20 (by decide) (by omega) (by omega) wr).mono ?_
      rintro e w' ⟨rfl, rfl⟩
      go_wp2_with fail
      go_roundw
      case rel => exact ⟨5, rfl, by omega, trivial⟩
      case measure => decide
    · go_wp2_with fail
      go_ret
      exact ⟨rfl, HB.out⟩

set_option maxHeartbeats 1000000 in
theorem waits_walk (n b m k : Int) (hk2 : I64 k) (hn2 : I64 n) (w : World) :
    Calls Try.prog 3 #[.int .i64 n, .int .i64 b, .int .i64 m, .int .i64 k] w fun e w' => e = .returned (.bool true) ∧ Below w.heap.size w w' := by
  by_cases hr : Sp b ∧ Sp m ∧ 0 ≤ k
  · obtain ⟨hb, hm, hk⟩ := hr
    have hR : decide ((0 ≤ b ∧ b ≤ 1048576) ∧ 0 ≤ m ∧ m ≤ 1048576) = true := by unfold Sp at hb hm; simp [hb, hm]
    have HS := Lib.hid (And.intro hb (And.intro hm hk2))
    clear hb hm hk2
    go_enter Try.func3, Try.ntmps3
    go_wp2_with fail
    refine (lives12_any w).mono ?_
    rintro e wa ⟨rfl, hB⟩
    have HB := Lib.hid hB
    clear hB
    go_wp2_with fail
    refine (Wait_ok b m k wa HS.out.1 HS.out.2.1 hk HS.out.2.2).mono ?_
    rintro e w' ⟨rfl, rfl⟩
    by_cases ht : Tk n
    · have hC := Due_ok n b m k w' ht HS.out.1 HS.out.2.1 hk HS.out.2.2
      have hE := ref_any b m k w' HS.out.1 HS.out.2.1 hk HS.out.2.2
      have hW := wt_bd HS.out.1 HS.out.2.1 k
      have hm2 := HS.out.2.1.2
      have HC := Lib.hid (And.intro hC hE)
      clear hC hE
      unfold Tk at ht
      unfold I64 at hn2
      have hW2 : 0 ≤ wt b m k ∧ wt b m k ≤ 1048576 := by omega
      clear hW hm2
      generalize wt b m k = X at *
      go_wp2_with fail
      refine HC.out.1.mono ?_
      rintro e w'' ⟨rfl, rfl⟩
      go_wp2_with fail
      refine (right_any b m w'').mono ?_
      rintro e w' ⟨rfl, rfl⟩
      rw [hR]
      go_wp2_with fail
      refine HC.out.2.mono ?_
      rintro e w'' ⟨rfl, rfl⟩
      go_wp2_with fail
      all_goals
        go_ret
        refine ⟨congrArg (fun b => Ending.returned (.bool b)) ?_, HB.out⟩
        exact beq_iff_eq.mpr (by omega)
    · have hC := Due_no n b m k w' HS.out.2.2 (fun x => ht x.1)
      have hE := ref_any b m k w' HS.out.1 HS.out.2.1 hk HS.out.2.2
      have hn : n < 0 ∨ 1099511627776 < n := by unfold Tk at ht; omega
      have HC := Lib.hid (And.intro hC hE)
      clear hC hE ht
      unfold I64 at hn2
      generalize wt b m k = X at *
      rcases hn with hn | hn
      · go_wp2_with fail
        refine HC.out.1.mono ?_
        rintro e w'' ⟨rfl, rfl⟩
        go_wp2_with fail
        refine (right_any b m w'').mono ?_
        rintro e w' ⟨rfl, rfl⟩
        rw [hR]
        go_wp2_with fail
        refine HC.out.2.mono ?_
        rintro e w'' ⟨rfl, rfl⟩
        go_wp2_with fail
        go_ret
        exact ⟨rfl, HB.out⟩
      · have hn3 : ¬ n < 0 := by omega
        go_wp2_with fail
        refine HC.out.1.mono ?_
        rintro e w'' ⟨rfl, rfl⟩
        go_wp2_with fail
        refine (right_any b m w'').mono ?_
        rintro e w' ⟨rfl, rfl⟩
        rw [hR]
        go_wp2_with fail
        refine HC.out.2.mono ?_
        rintro e w'' ⟨rfl, rfl⟩
        go_wp2_with fail
        go_ret
        exact ⟨rfl, HB.out⟩
  · have HN := Lib.hid (And.intro hr hk2)
    have hR : decide ((0 ≤ b ∧ b ≤ 1048576) ∧ 0 ≤ m ∧ m ≤ 1048576) = false ∨ decide ((0 ≤ b ∧ b ≤ 1048576) ∧ 0 ≤ m ∧ m ≤ 1048576) = true ∧ k < 0 := by
      unfold Sp at hr
      by_cases h : (0 ≤ b ∧ b ≤ 1048576) ∧ 0 ≤ m ∧ m ≤ 1048576
      · exact .inr ⟨by simpa using h, by omega⟩
      · exact .inl (by simpa using h)
    clear hr hk2 hn2
    go_enter Try.func3, Try.ntmps3
    go_wp2_with fail
    refine (lives12_any w).mono ?_
    rintro e wa ⟨rfl, hB⟩
    have HB := Lib.hid hB
    clear hB
    go_wp2_with fail
    refine (Wait_no b m k wa HN.out.1).mono ?_
    rintro e w' ⟨rfl, rfl⟩
    go_wp2_with fail
    refine (Due_no n b m k w' HN.out.2 (fun x => HN.out.1 x.2)).mono ?_
    rintro e w'' ⟨rfl, rfl⟩
    go_wp2_with fail
    refine (right_any b m w'').mono ?_
    rintro e w' ⟨rfl, rfl⟩
    rcases hR with hR | ⟨hR, hk⟩
    · rw [hR]
      go_wp2_with fail
      go_ret
      exact ⟨rfl, HB.out⟩
    · rw [hR]
      go_wp2_with fail
      go_ret
      exact ⟨rfl, HB.out⟩

set_option maxHeartbeats 1000000 in
theorem grows_walk (b m k : Int) (hk2 : I64 k) (w : World) :
    Calls Try.prog 4 #[.int .i64 b, .int .i64 m, .int .i64 k] w fun e w' => e = .returned (.bool true) ∧ Below w.heap.size w w' := by
  by_cases hr : Sp b ∧ Sp m ∧ 1 ≤ k ∧ k ≤ 16
  · obtain ⟨hb, hm, hk, hk16⟩ := hr
    obtain ⟨n, hn, hn16⟩ : ∃ n : Nat, k = ((n : Nat) : Int) + 1 ∧ n < 16 := ⟨(k - 1).toNat, by omega, by omega⟩
    subst hn
    have hR : decide ((0 ≤ b ∧ b ≤ 1048576) ∧ 0 ≤ m ∧ m ≤ 1048576) = true := by unfold Sp at hb hm; simp [hb, hm]
    have HS := Lib.hid (And.intro hb hm)
    clear hb hm hk2
    have hn0 : (0 : Int) ≤ ((n : Nat) : Int) := by omega
    have hn1 : ((n : Nat) : Int) < 16 := by omega
    go_enter Try.func4, Try.ntmps4
    go_wp2_with fail
    refine (lives12_any w).mono ?_
    rintro e wa ⟨rfl, hB⟩
    have HB := Lib.hid hB
    clear hB
    go_wp2_with fail
    refine (Total_ok b m n wa HS.out.1 HS.out.2 hn16).mono ?_
    rintro e w' ⟨rfl, rfl⟩
    go_wp2_with fail
    refine (right_any b m w').mono ?_
    rintro e w'' ⟨rfl, rfl⟩
    rw [hR]
    go_wp2_with fail
    go_loopw [9, 10, 43] (fun lv sv iv wr => ∃ (i : Nat) (l : Int), lv = .int .i64 l ∧ sv = .int .i64 (sm b m i) ∧ iv = .int .i64 ((i : Nat) : Int) ∧ i ≤ n ∧ l ≤ wt b m i ∧ 0 ≤ l ∧ l ≤ 1048576 ∧ wr = w'') (fun _ _ iv _ => n - (RowKit.intOf iv).toNat)
    case atStart => exact ⟨0, 0, rfl, rfl, rfl, by omega, (wt_bd HS.out.1 HS.out.2 _).1, by omega, by omega, rfl⟩
    case round =>
      obtain ⟨i, l, e1, e2, e3, hin, hl, hl0, hl2, hwr⟩ := hrel
      subst e1 e2 e3 hwr
      have hi0 : (0 : Int) ≤ ((i : Nat) : Int) := by omega
      by_cases c1 : i < n
      · have c1' : ((i : Nat) : Int) < ((n : Nat) : Int) := by omega
        have hC := Wait_ok b m i wr HS.out.1 HS.out.2 hi0 (by unfold I64; omega)
        have hs1 := sm_bd HS.out.1 HS.out.2 i
        have hw := wt_bd HS.out.1 HS.out.2 i
        have hm2 := HS.out.2.2
        have hs2 : 0 ≤ sm b m i ∧ sm b m i ≤ 16777216 := by omega
        have hw2 : 0 ≤ wt b m i ∧ wt b m i ≤ 1048576 := by omega
        have hw3 : wt b m i ≤ m := hw.2
        have hsm : sm b m (i + 1) = sm b m i + wt b m i := rfl
        have hgr : wt b m i ≤ wt b m ((i + 1 : Nat) : Int) := wt_grow HS.out.1 (by omega)
        have HC := Lib.hid (And.intro hC (And.intro hsm hgr))
        clear hC hsm hs1 hw hm2 hgr
        generalize sm b m i = S at *
        generalize wt b m i = T at *
        go_wp2_with fail
        refine HC.out.1.mono ?_
        rintro e w' ⟨rfl, rfl⟩
        go_wp2_with fail
        go_roundw
        case rel => exact ⟨i + 1, T, rfl, by rw [HC.out.2.1], by simp, by omega, HC.out.2.2, by omega, by omega, trivial⟩
        case measure => simp [RowKit.intOf]; omega
      · have c2 : i = n := by omega
        subst c2
        go_wp2_with fail
        go_ret
        exact ⟨by simp, HB.out⟩
  · have HN := Lib.hid hr
    have hR : decide ((0 ≤ b ∧ b ≤ 1048576) ∧ 0 ≤ m ∧ m ≤ 1048576) = false ∨ decide ((0 ≤ b ∧ b ≤ 1048576) ∧ 0 ≤ m ∧ m ≤ 1048576) = true ∧ (k < 1 ∨ ¬ k < 1 ∧ 16 < k) := by
      unfold Sp at hr
      by_cases h : (0 ≤ b ∧ b ≤ 1048576) ∧ 0 ≤ m ∧ m ≤ 1048576
      · exact .inr ⟨by simpa using h, by omega⟩
      · exact .inl (by simpa using h)
    clear hr hk2
    go_enter Try.func4, Try.ntmps4
    go_wp2_with fail
    refine (lives12_any w).mono ?_
    rintro e wa ⟨rfl, hB⟩
    have HB := Lib.hid hB
    clear hB
    go_wp2_with fail
    refine (Total_no b m k wa HN.out).mono ?_
    rintro e w' ⟨rfl, rfl⟩
    go_wp2_with fail
    refine (right_any b m w').mono ?_
    rintro e w'' ⟨rfl, rfl⟩
    rcases hR with hR | ⟨hR, hk | ⟨hk0, hk⟩⟩
    all_goals
      rw [hR]
      go_wp2_with fail
      go_ret
      exact ⟨rfl, HB.out⟩

set_option maxHeartbeats 1000000 in
theorem doubles_walk (a c k : Int) (ha : 0 ≤ a ∧ a ≤ 4294967295) (hc : 0 ≤ c ∧ c ≤ 4294967295) (hk : 0 ≤ k ∧ k ≤ 255) (w : World) :
    Calls Try.prog 5 #[.int .u32 a, .int .u32 c, .int .u8 k] w fun e w' => e = .returned (.bool true) ∧ Below w.heap.size w w' := by
  have hb0 : Sp (a % 1048577) := ⟨by omega, by omega⟩
  have hm0 : Sp (c % 1048577) := ⟨by omega, by omega⟩
  go_enter Try.func5, Try.ntmps5
  go_wp2_with fail
  refine (lives12_any w).mono ?_
  rintro e wa ⟨rfl, hB⟩
  have HB := Lib.hid hB
  clear hB
  go_wp2_with fail
  generalize a % 1048577 = b at *
  generalize c % 1048577 = m at *
  have hC := Wait_ok b m k wa hb0 hm0 hk.1 (by unfold I64; omega)
  have hC2 := Wait_ok b m (k + 1) wa hb0 hm0 (by omega) (by unfold I64; omega)
  have hW := wt_bd hb0 hm0 k
  have hW2 := wt_bd hb0 hm0 (k + 1)
  have hD := wt_double hb0 hm0 hk.1
  unfold Sp at hb0 hm0
  generalize wt b m k = X at *
  generalize wt b m (k + 1) = Y at *
  have HC := Lib.hid (And.intro hC (And.intro hC2 hD))
  clear hC hC2 hD
  refine HC.out.1.mono ?_
  rintro e w' ⟨rfl, rfl⟩
  go_wp2_with fail
  refine HC.out.2.1.mono ?_
  rintro e w'' ⟨rfl, rfl⟩
  go_wp2_with fail
  all_goals
    go_ret
    refine ⟨congrArg (fun b => Ending.returned (.bool b)) ?_, HB.out⟩
    exact beq_iff_eq.mpr (by have := HC.out.2.2; omega)

theorem i64_of {a : Int} (h : (Lit.int .i64 a).wf = true) : I64 a := by simpa [I64, Lit.wf, IntKind.min, IntKind.max, IntKind.signed, IntKind.bits] using h
theorem u32_of {a : Int} (h : (Lit.int .u32 a).wf = true) : 0 ≤ a ∧ a ≤ 4294967295 := by simpa [Lit.wf, IntKind.min, IntKind.max, IntKind.signed, IntKind.bits] using h
theorem u8_of {a : Int} (h : (Lit.int .u8 a).wf = true) : 0 ≤ a ∧ a ≤ 255 := by simpa [Lit.wf, IntKind.min, IntKind.max, IntKind.signed, IntKind.bits] using h
end Go.Proofs.Ytebchbehhcafjaa.Bo
