
/- the calendar's example; the walks of CalendarMonths and CalendarEras -/
import Derived.Test.YtipcfdiibbehbaaCa2
namespace Go.Proofs.Ytipcfdiibbehbaa.Ca
open Go.RowKit Go.Lib
set_option linter.unusedVariables false

theorem bcell {W w1 : World} (hb : Below W.heap.size W w1) : (∀ b o, b < W.heap.size → w1.cell? ⟨b, o, none⟩ = W.cell? ⟨b, o, none⟩) ∧ (∀ b o, b < W.heap.size → w1.frozen? ⟨b, o, none⟩ = W.frozen? ⟨b, o, none⟩) :=
  ⟨fun b o h => hb.cell (p := ⟨b, o, none⟩) h, fun b o h => hb.frozen (p := ⟨b, o, none⟩) h⟩
theorem old_blk {w w' : World} {b : Nat} {o : Obj} (hb : Below w.heap.size w w') (h : w.heap[b]? = some o) : w'.heap[b]? = some o := (hb.block b (by
  have := (Array.getElem?_eq_some_iff.1 h).1; exact this)).trans h

theorem lives06_any (w : World) : Calls Try.prog 8 #[] w fun e w' => e = .returned (.bool true) ∧ Below w.heap.size w w' := by
  go_enter Try.func8, Try.ntmps8
  go_wp2_with fail
  refine (Of_in 1440 w (by omega) (by omega)).mono ?_
  rintro e w' ⟨y, mo, d, wd, h, mi, rfl, hi, hb⟩
  obtain ⟨rfl, rfl, rfl, rfl, rfl, rfl⟩ := isM_1440.same hi
  clear hi
  go_wp2_with fail
  go_ret
  exact ⟨rfl, hb.alloc (by have := hb.size; omega) _⟩

set_option maxHeartbeats 1000000 in
theorem months_walk (a0 a1 : Int) (w0 : (Lit.int .i64 a0).wf = true) (w1 : (Lit.int .i64 a1).wf = true) (w : World) :
    Calls Try.prog 4 #[.int .i64 a0, .int .i64 a1] w fun e w' => e = .returned (.bool true) ∧ Below w.heap.size w w' := by
  have h0 : I64 a0 := by simpa [I64, Lit.wf, IntKind.min, IntKind.max, IntKind.signed, IntKind.bits] using w0
  have h1 : I64 a1 := by simpa [I64, Lit.wf, IntKind.min, IntKind.max, IntKind.signed, IntKind.bits] using w1
  have H := Lib.hid (And.intro h0 h1)
  clear w0 w1 h0 h1
  go_enter Try.func4, Try.ntmps4
  go_wp2_with fail
  refine (lives06_any w).mono ?_
  rintro e wa ⟨rfl, hb⟩
  go_wp2_with fail
  refine (Leap_any a0 wa H.out.1).mono ?_
  rintro e w' ⟨rfl, rfl⟩
  go_wp2_with fail
  refine (leap_any a0 w' H.out.1).mono ?_
  rintro e wb ⟨rfl, rfl⟩
  cases hl : lp a0
  all_goals
    go_wp2_with fail
    refine (Days_any a0 a1 wb H.out.1 H.out.2).mono ?_
    rintro e wc ⟨rfl, rfl⟩
    go_wp2_with fail
    refine (length_any a0 a1 wc H.out.1 H.out.2).mono ?_
    rintro e wd ⟨rfl, hc⟩
    go_wp2_with fail
    go_ret
    exact ⟨rfl, hb.trans (hc.mono hb.size)⟩

set_option maxHeartbeats 1000000 in
theorem eras_walk (a0 : Int) (w0 : (Lit.int .u32 a0).wf = true) (w : World) :
    Calls Try.prog 6 #[.int .u32 a0] w fun e w' => e = .returned (.bool true) ∧ Below w.heap.size w w' := by
  have h0 : 0 ≤ a0 ∧ a0 ≤ 4294967295 := by simpa [Lit.wf, IntKind.min, IntKind.max, IntKind.signed, IntKind.bits] using w0
  clear w0
  go_enter Try.func6, Try.ntmps6
  go_wp2_with fail
  refine (lives06_any w).mono ?_
  rintro e wa ⟨rfl, hba⟩
  go_wp2_with fail
  refine (Of_in a0 wa (by omega) (by omega)).mono ?_
  rintro e wb ⟨y, mo, d, wd, h, mi, rfl, hi, hbb⟩
  have hy := hi.y0
  have hyu : y ≤ 3000000 := by have := hi.year.1; have := ah_ge hy; omega
  have HI := Lib.hid hi
  have HB := Lib.hid (hba.trans (hbb.mono hba.size))
  clear hi hba hbb
  go_wp2_with fail
  refine (Of_in (a0 + 210379680) _ (by omega) (by omega)).mono ?_
  rintro e wc ⟨y', mo', d', wd', h', mi', rfl, hj, hbc⟩
  obtain ⟨rfl, rfl, rfl, rfl, rfl, rfl⟩ := HI.out.era.same hj
  have HC := Lib.hid hbc
  have hk := old_blk hbc (heap_alloc_new wb _)
  obtain ⟨⟨c0, c1, c2, c3, c4, c5⟩, fz⟩ := mom_cells hk
  have hz : wb.heap.size < wc.heap.size := by have := hbc.size; simp at this; omega
  clear hj hbc hk fz
  go_wp2_with fail
  go_ret
  exact ⟨rfl, ((HB.out.alloc HB.out.size _).trans (HC.out.mono (by simp; have := HB.out.size; omega))).alloc (by have := HB.out.size; omega) _⟩
end Go.Proofs.Ytipcfdiibbehbaa.Ca
