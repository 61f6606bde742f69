
/- the walk of CalendarGoes -/
import Derived.Test.YtipcfdiibbehbaaCa3
namespace Go.Proofs.Ytipcfdiibbehbaa.Ca
open Go.RowKit Go.Lib
set_option linter.unusedVariables false

set_option maxRecDepth 20000 in
set_option maxHeartbeats 3000000 in
theorem goes_walk (a0 : Int) (w0 : (Lit.int .u32 a0).wf = true) (w : World) :
    Calls Try.prog 5 #[.int .u32 a0] w fun e w' => e = .returned (.bool true) ∧ Below w.heap.size w w' := by
  have h0 : 0 ≤ a0 ∧ a0 ≤ 4294967295 := by simpa [Lit.wf, IntKind.min, IntKind.max, IntKind.signed, IntKind.bits] using w0
  clear w0
  go_enter Try.func5, Try.ntmps5
  go_wp2_with fail
  refine (lives06_any w).mono ?_
  rintro e wa ⟨rfl, hba⟩
  go_wp2_with fail
  refine (Of_in a0 wa (by omega) (by omega)).mono ?_
  rintro e wb ⟨y, mo, d, wd, h, mi, rfl, hi, hbb⟩
  have hy := hi.y0
  have hyu : y ≤ 3000000 := by have := hi.year.1; have := ah_ge hy; omega
  have hm : 1 ≤ mo ∧ mo ≤ 12 := ⟨hi.m1, hi.m2⟩
  have hd : 1 ≤ d ∧ d ≤ 31 := ⟨hi.d1, by have := hi.d2; have := dm_le y mo; omega⟩
  have hwd : 0 ≤ wd ∧ wd ≤ 6 := by have := hi.wd; omega
  have HI := Lib.hid hi
  have HB := Lib.hid (hba.trans (hbb.mono hba.size))
  clear hi hba hbb
  go_wp2_with fail
  refine (Of_in (a0 + 1440) _ (by omega) (by omega)).mono ?_
  rintro e wc ⟨y', mo', d', wd', h', mi', rfl, hj, hbc⟩
  have hk := old_blk hbc (heap_alloc_new wb _)
  obtain ⟨⟨c0, c1, c2, c3, c4, c5⟩, fz⟩ := mom_cells hk
  have hz : wb.heap.size < wc.heap.size := by have := hbc.size; simp at this; omega
  have HE := Lib.hid ((HB.out.alloc HB.out.size _).trans (hbc.mono (by simp; have := HB.out.size; omega)))
  clear hbc hk fz
  have hq := fun W => Days_any y mo W (by unfold I64; omega) (by unfold I64; omega)
  obtain ⟨L, eL⟩ : ∃ L, L = dm y mo := ⟨_, rfl⟩
  by_cases hdl : d < L
  · have hB : decide (d < L) = true := by simpa using hdl
    obtain ⟨rfl, rfl, rfl, rfl, rfl, rfl⟩ := (HI.out.day1 (by rw [← eL]; exact hdl)).same hj
    simp only [← eL] at hq
    have HQ := Lib.hid hq
    have EL := Lib.hid eL
    clear hj hq eL
    go_wp2_with fail
    go_quiet ((go_at_call 14; exact Calls.quiet_of_same (HQ.out _)))
    go_wp2_with fail
    go_ret
    exact ⟨rfl, below_drewN (HE.out.alloc HE.out.size _) _⟩
  have hB : decide (d < L) = false := by simpa using hdl
  by_cases hml : mo < 12
  · obtain ⟨rfl, rfl, rfl, rfl, rfl, rfl⟩ := (HI.out.month1 (by rw [← eL]; exact hdl) hml).same hj
    simp only [← eL] at hq
    have HQ := Lib.hid hq
    have EL := Lib.hid eL
    clear hj hq eL
    go_wp2_with fail
    go_quiet ((go_at_call 14; exact Calls.quiet_of_same (HQ.out _)))
    go_wp2_with fail
    go_ret
    exact ⟨rfl, below_drewN (HE.out.alloc HE.out.size _) _⟩
  · obtain ⟨rfl, rfl, rfl, rfl, rfl, rfl⟩ := (HI.out.year1 (by rw [← eL]; exact hdl) hml).same hj
    simp only [← eL] at hq
    have HQ := Lib.hid hq
    have EL := Lib.hid eL
    clear hj hq eL
    go_wp2_with fail
    go_quiet ((go_at_call 14; exact Calls.quiet_of_same (HQ.out _)))
    go_wp2_with fail
    go_ret
    exact ⟨rfl, below_drewN (HE.out.alloc HE.out.size _) _⟩
end Go.Proofs.Ytipcfdiibbehbaa.Ca
