
/- the walk of CalendarOrder -/
import Derived.Test.YtipcfdiibbehbaaCa3
namespace Go.Proofs.Ytipcfdiibbehbaa.Ca
open Go.RowKit Go.Lib
set_option linter.unusedVariables false

theorem five_cells {w : World} {b : Nat} {l : List Int} {t : TypeId} (h : w.heap[b]? = some (.cells (l.map (Value.int .i64)).toArray t (0, 0))) {k : Nat} (hk : k < l.length) :
    w.cell? ⟨b, k, none⟩ = some (.int .i64 (l.getD k 0)) := by
  simp [World.cell?, h, hk]

set_option maxRecDepth 20000 in
set_option maxHeartbeats 3000000 in
theorem order_walk (a0 a1 : Int) (w0 : (Lit.int .i64 a0).wf = true) (w1 : (Lit.int .i64 a1).wf = true) (w : World) :
    Calls Try.prog 7 #[.int .i64 a0, .int .i64 a1] w fun e w' => e = .returned (.bool true) ∧ Below w.heap.size w w' := by
  have h0 : I64 a0 := by simpa [I64, Lit.wf, IntKind.min, IntKind.max, IntKind.signed, IntKind.bits] using w0
  have h1 : I64 a1 := by simpa [I64, Lit.wf, IntKind.min, IntKind.max, IntKind.signed, IntKind.bits] using w1
  clear w0 w1
  unfold I64 at h0 h1
  by_cases bad : a0 < 0 ∨ a1 ≤ a0 ∨ 1099511627776 < a1
  · have hbad : a0 < 0 ∨ (0 ≤ a0 ∧ a1 ≤ a0) ∨ (0 ≤ a0 ∧ a0 < a1 ∧ 1099511627776 < a1) := by omega
    clear bad
    rcases hbad with h | ⟨h2, h3⟩ | ⟨h2, h3, h4⟩
    all_goals
      go_enter Try.func7, Try.ntmps7
      go_wp2_with fail
      refine (lives06_any w).mono ?_
      rintro e wa ⟨rfl, hb⟩
      go_wp2_with fail
      refine (lives06_any wa).mono ?_
      rintro e wb ⟨rfl, hc⟩
      go_wp2_with fail
      go_ret
      exact ⟨rfl, hb.trans (hc.mono hb.size)⟩
  have ha0 : 0 ≤ a0 ∧ a0 ≤ 1099511627776 := by omega
  have ha1 : 0 ≤ a1 ∧ a1 ≤ 1099511627776 := by omega
  have hlt : a0 < a1 := by omega
  have b1 : decide (a0 < 0) = false := decide_eq_false (by omega)
  have b2 : decide (a1 ≤ a0) = false := decide_eq_false (by omega)
  have b3 : decide (1099511627776 < a1) = false := decide_eq_false (by omega)
  clear bad h0 h1
  go_enter Try.func7, Try.ntmps7
  go_wp2_with fail
  refine (lives06_any w).mono ?_
  rintro e wa ⟨rfl, hba⟩
  go_wp2_with fail
  refine (Of_in a0 wa ha0.1 ha0.2).mono ?_
  rintro e wb ⟨y, mo, d, wd, h, mi, rfl, hi, hbb⟩
  have HI := Lib.hid hi
  have HB := Lib.hid (hba.trans (hbb.mono hba.size))
  clear hi hba hbb
  go_wp2_with fail
  refine (Of_in a1 _ ha1.1 ha1.2).mono ?_
  rintro e wc ⟨y', mo', d', wd', h', mi', rfl, hj, hbc⟩
  have hk := old_blk hbc (heap_alloc_new wb _)
  obtain ⟨⟨c0, c1, c2, c3, c4, c5⟩, fz⟩ := mom_cells hk
  have hz : wb.heap.size < wc.heap.size := by have := hbc.size; simp at this; omega
  have HE := Lib.hid ((HB.out.alloc HB.out.size _).trans (hbc.mono (by simp; have := HB.out.size; omega)))
  obtain ⟨n, hn5, heq, hless⟩ := HI.out.first hj hlt ha0.1
  have HN := Lib.hid (And.intro heq hless)
  clear hbc hk fz hj heq hless
  go_wp2_with fail
  obtain ⟨W0, hW0⟩ : ∃ X, X = ((wc.alloc (.cells (momC y' mo' d' wd' h' mi') 23)).alloc (.cells ([y, mo, d, h, mi].map (Value.int .i64)).toArray 3)).alloc (.cells ([y', mo', d', h', mi'].map (Value.int .i64)).toArray 3) := ⟨_, rfl⟩
  have g1 : W0.heap[wc.heap.size + 1]? = some (.cells ([y, mo, d, h, mi].map (Value.int .i64)).toArray 3 (0, 0)) := by
    have := heap_alloc_new (wc.alloc (.cells (momC y' mo' d' wd' h' mi') 23)) (.cells ([y, mo, d, h, mi].map (Value.int .i64)).toArray 3)
    rw [World.size_alloc] at this
    rw [hW0]; exact old_blk ((Below.refl _ _).alloc (Nat.le_refl _) _) this
  have g2 : W0.heap[wc.heap.size + 1 + 1]? = some (.cells ([y', mo', d', h', mi'].map (Value.int .i64)).toArray 3 (0, 0)) := by
    have := heap_alloc_new ((wc.alloc (.cells (momC y' mo' d' wd' h' mi') 23)).alloc (.cells ([y, mo, d, h, mi].map (Value.int .i64)).toArray 3)) (.cells ([y', mo', d', h', mi'].map (Value.int .i64)).toArray 3)
    rw [World.size_alloc, World.size_alloc] at this
    rw [hW0]; exact this
  have hW1 : Below w.heap.size w W0 := by
    rw [hW0]; exact ((HE.out.alloc HE.out.size _).alloc (by simp; have := HE.out.size; omega) _).alloc (by simp; have := HE.out.size; omega) _
  have hW2 := hW0
  simp only [List.map_cons, List.map_nil] at hW2
  rw [← hW2]
  have e1 : [y, mo, d, h, mi].length = 5 := rfl
  have e2 : [y', mo', d', h', mi'].length = 5 := rfl
  obtain ⟨P, hP⟩ : ∃ P, P = [y, mo, d, h, mi] := ⟨_, rfl⟩
  obtain ⟨Q, hQ⟩ : ∃ Q, Q = [y', mo', d', h', mi'] := ⟨_, rfl⟩
  have hn := HN.out
  rw [← hP] at g1 e1 hn
  rw [← hQ] at g2 e2 hn
  have HG := Lib.hid (And.intro g1 (And.intro g2 (And.intro e1 (And.intro e2 (And.intro hn hW1)))))
  clear g1 g2 e1 e2 hn hW0 hW1 hW2 HN hP hQ c0 c1 c2 c3 c4 c5
  go_loopw [62] (fun iv wr => ∃ k m : Nat, k ≤ n ∧ iv = .int .i64 k ∧ wr = W0.drewN m) (fun iv _ => 5 - (intOf iv).toNat)
  case atStart => exact ⟨0, 0, Nat.zero_le _, rfl, rfl⟩
  case round =>
    obtain ⟨k, m, hk, rfl, rfl⟩ := hrel
    have k5 : k < 5 := by omega
    have q1 : (0 : Int) ≤ (k : Int) := by omega
    have q2 : (k : Int) < 5 := by omega
    have q3 : (k : Int).toNat = k := by omega
    have cp : W0.cell? ⟨wc.heap.size + 1, k, none⟩ = some (.int .i64 (P.getD k 0)) := five_cells HG.out.1 (by rw [HG.out.2.2.1]; exact k5)
    have cq : W0.cell? ⟨wc.heap.size + 1 + 1, k, none⟩ = some (.int .i64 (Q.getD k 0)) := five_cells HG.out.2.1 (by rw [HG.out.2.2.2.1]; exact k5)
    by_cases hkn : k < n
    · have he := HG.out.2.2.2.2.1.1 k hkn
      obtain ⟨X, hX⟩ : ∃ X, X = Q.getD k 0 := ⟨_, rfl⟩
      rw [he] at cp
      rw [← hX] at cp cq
      have HX := Lib.hid (And.intro he hX)
      clear he hX
      go_wp2_with fail
      go_quiet (fail)
      go_wp2_with fail
      exact ⟨⟨k + 1, m + nq, by omega, by go_num, rfl⟩, by simp [intOf]; omega⟩
    · obtain rfl : k = n := by omega
      have he := HG.out.2.2.2.2.1.2
      obtain ⟨X, hX⟩ : ∃ X, X = P.getD k 0 := ⟨_, rfl⟩
      obtain ⟨Y, hY⟩ : ∃ Y, Y = Q.getD k 0 := ⟨_, rfl⟩
      rw [← hX] at cp he
      rw [← hY] at cq he
      have HX := Lib.hid (And.intro hX hY)
      clear hX hY
      go_wp2_with fail
      have he2 : decide (X < Y) = true := decide_eq_true he
      go_quiet (fail)
      go_wp2_with fail
      go_quiet (fail)
      go_wp2_with fail
      go_ret
      exact ⟨rfl, below_drewN (below_drewN (below_drewN HG.out.2.2.2.2.2 _) _) _⟩
end Go.Proofs.Ytipcfdiibbehbaa.Ca
