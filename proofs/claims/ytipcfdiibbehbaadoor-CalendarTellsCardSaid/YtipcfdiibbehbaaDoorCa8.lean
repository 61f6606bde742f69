
/- a moment's tick -/
import Derived.Test.YtipcfdiibbehbaaDoorCa7
namespace Go.Proofs.YtipcfdiibbehbaaDoor.Ca
open Go.RowKit Go.Lib
set_option linter.unusedVariables false

theorem Tick_arg (y mo d wd h mi : Int) (w : World) (hy : I64 y) (hm : I64 mo) (hd : I64 d) (hh : I64 h) (hi : I64 mi) (hv : vldB y mo d h mi = false) :
    Calls Tryd.prog 7 #[mom y mo d wd h mi] w fun e w' => e = .returned (.tuple #[.int .i64 0, .int .i64 1]) ∧ Below w.heap.size w w' := by
  have h1 := isMoment_any y mo d wd h mi (w.alloc (.cells (momC y mo d wd h mi) 24)) hy hm hd hh hi
  rw [hv] at h1
  have H1 := Lib.hid h1
  clear h1 hv hy hm hd hh hi
  go_enter Tryd.func7, Tryd.ntmps7
  go_wp2_with fail
  refine H1.out.mono ?_
  rintro e w' ⟨rfl, hb⟩
  have HB := Lib.hid hb
  clear hb
  go_wp2_with fail
  go_ret2
  exact ⟨rfl, ((Below.refl _ _).alloc (Nat.le_refl _) _).trans (HB.out.mono (by simp))⟩

set_option maxHeartbeats 1000000 in
theorem Tick_far (y mo d wd h mi : Int) (w : World) (hy : I64 y) (hm : I64 mo) (hd : I64 d) (hh : I64 h) (hi : I64 mi) (hv : vldB y mo d h mi = true) (hf : y < 2000 ∨ 2093917 < y) :
    Calls Tryd.prog 7 #[mom y mo d wd h mi] w fun e w' => e = .returned (.tuple #[.int .i64 0, .int .i64 3]) ∧ Below w.heap.size w w' := by
  have h1 := isMoment_any y mo d wd h mi (w.alloc (.cells (momC y mo d wd h mi) 24)) hy hm hd hh hi
  rw [hv] at h1
  have H1 := Lib.hid h1
  clear h1 hv hm hd hh hi
  unfold I64 at hy
  have hf2 : (y < 2000) ∨ (2000 ≤ y ∧ 2093917 < y) := by omega
  clear hf
  rcases hf2 with h0 | ⟨h0, h2⟩
  all_goals
    go_enter Tryd.func7, Tryd.ntmps7
    go_wp2_with fail
    refine H1.out.mono ?_
    rintro e w' ⟨rfl, hb⟩
    have hk := old_blk hb (heap_alloc_new w _)
    obtain ⟨⟨c0, c1, c2, c3, c4, c5⟩, fz⟩ := mom_cells hk
    have HB := Lib.hid hb
    clear hb hk fz c1 c2 c3 c4 c5
    go_wp2_with fail
    go_ret2
    exact ⟨rfl, ((Below.refl _ _).alloc (Nat.le_refl _) _).trans (HB.out.mono (by simp))⟩

/-- what is told of a moment's tick: itself, or that it is beyond the last one -/
def tkV (t : Int) : Value := if 1099511627776 < t then .tuple #[.int .i64 0, .int .i64 3] else .tuple #[.int .i64 t, .int .i64 0]

set_option maxRecDepth 20000 in
set_option maxHeartbeats 3000000 in
theorem Tick_near (y mo d wd h mi : Int) (w : World) (hm : I64 mo) (hv : vldB y mo d h mi = true) (hy0 : 2000 ≤ y) (hy1 : y ≤ 2093917) :
    Calls Tryd.prog 7 #[mom y mo d wd h mi] w fun e w' => e = .returned (tkV (tk y mo d h mi)) ∧ Below w.heap.size w w' := by
  obtain ⟨k1, k2, k3, k4, k5, k6⟩ := vldB_true.1 hv
  have hmo : 1 ≤ mo ∧ mo ≤ 12 := by
    by_cases g : mo < 1 ∨ 12 < mo
    · have := dm_none (y := y) g; omega
    · omega
  have hdm := dm_le y mo
  have h1 := isMoment_any y mo d wd h mi (w.alloc (.cells (momC y mo d wd h mi) 24)) (by unfold I64; omega) hm (by unfold I64; omega) (by unfold I64; omega) (by unfold I64; omega)
  rw [hv] at h1
  have H1 := Lib.hid h1
  have hdd : 1 ≤ d ∧ d ≤ 31 := by omega
  have hA := ah_ge hy0
  have hA2 := ah_le hy0
  have hq := fun W => ahead_any y W (by unfold Yr; omega)
  have ht : tk y mo d h mi = (ah y + mb y mo + (d - 1)) * 1440 + (h * 60 + mi) := rfl
  obtain ⟨T, hT⟩ : ∃ T, T = tk y mo d h mi := ⟨_, rfl⟩
  rw [← hT] at ht ⊢
  obtain ⟨A, eA⟩ : ∃ A, A = ah y := ⟨_, rfl⟩
  rw [← eA] at hA hA2 ht
  simp only [← eA] at hq
  have HT := Lib.hid (And.intro ht (And.intro hT eA))
  have HQ := Lib.hid hq
  clear h1 hv hm hdm k1 k2 ht hT eA hq
  have e1 : IntKind.i64.wrap (d - 1) = d - 1 := IntWalk.i64_in _ (by omega)
  have e2 : IntKind.i64.wrap (A + (d - 1)) = A + (d - 1) := IntWalk.i64_in _ (by omega)
  go_enter Tryd.func7, Tryd.ntmps7
  go_wp2_with fail
  refine H1.out.mono ?_
  rintro e w1 ⟨rfl, hb⟩
  have hk := old_blk hb (heap_alloc_new w _)
  obtain ⟨⟨c0, c1, c2, c3, c4, c5⟩, fz⟩ := mom_cells hk
  have HB := Lib.hid hb
  clear hb hk fz c3
  go_wp2_with fail
  go_quiet ((go_at_call 12; exact Calls.quiet_of_same (HQ.out _)))
  clear e1 e2
  go_wp2_with fail
  have hn0 := mb_one y
  go_loop [4, 5] (fun u v => ∃ m, 1 ≤ m ∧ m ≤ mo ∧ v = .int .i64 m ∧ u = .int .i64 (A + (d - 1) + mb y m)) (fun _ v => 20 - (intOf v).toNat)
  case atStart => exact ⟨1, by omega, by omega, rfl, by rw [hn0]; simp⟩
  case round =>
    obtain ⟨m, hm1, hm2, rfl, rfl⟩ := hrel
    have hmb := mb_nonneg y hm1 (by omega)
    obtain ⟨B, eB⟩ : ∃ B, B = mb y m := ⟨_, rfl⟩
    rw [← eB] at hmb ⊢
    by_cases hlt : m < mo
    · have hq := Days_any y m (w1.drewN nq) (by unfold I64; omega) (by unfold I64; omega)
      have hdm := dm_pos (y := y) hm1 (by omega)
      have hnx := mb_succ (y := y) hm1 (by omega)
      obtain ⟨L, eL⟩ : ∃ L, L = dm y m := ⟨_, rfl⟩
      rw [← eL] at hdm hq hnx
      have HX := Lib.hid (And.intro eB (And.intro eL (And.intro hn0 (And.intro hnx hq))))
      clear eB eL hn0 hnx hq
      go_wp2_with fail
      refine HX.out.2.2.2.2.mono ?_
      rintro e w' ⟨rfl, rfl⟩
      go_wp2_with fail
      refine ⟨⟨m + 1, by omega, by omega, rfl, ?_⟩, by simp [intOf]; omega⟩
      rw [HX.out.2.2.2.1, ← HX.out.1]; exact congrArg (Value.int .i64) (by omega)
    · obtain rfl : m = mo := by omega
      have ht := HT.out.1
      rw [← eB] at ht
      have HX := Lib.hid (And.intro eB hn0)
      have hTb : 0 ≤ T ∧ T ≤ 3000000000000 := by omega
      have hs : (A + (d - 1) + B) * 1440 + (h * 60 + mi) = T := by omega
      clear eB hn0 ht
      go_wp2_with fail
      refine (outside_any T _ (by unfold I64; omega)).mono ?_
      rintro e w' ⟨rfl, rfl⟩
      by_cases hbig : 1099511627776 < T
      · rw [decide_eq_true (Or.inr hbig)]
        have hv : tkV T = .tuple #[.int .i64 0, .int .i64 3] := if_pos hbig
        have HV := Lib.hid hv
        clear hv
        go_wp2_with fail
        go_ret2
        exact ⟨by rw [HV.out]; rfl, below_drewN (((Below.refl _ _).alloc (Nat.le_refl _) _).trans (HB.out.mono (by simp))) _⟩
      · rw [decide_eq_false (by omega)]
        have hv : tkV T = .tuple #[.int .i64 T, .int .i64 0] := if_neg hbig
        have HV := Lib.hid hv
        clear hv
        go_wp2_with fail
        go_ret2
        exact ⟨by rw [HV.out]; rfl, below_drewN (((Below.refl _ _).alloc (Nat.le_refl _) _).trans (HB.out.mono (by simp))) _⟩
end Go.Proofs.YtipcfdiibbehbaaDoor.Ca
