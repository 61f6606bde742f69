
/- is there such a moment? a moment's tick -/
import Derived.Test.YtipcfdiibbehbaaDoorCa3
namespace Go.Proofs.YtipcfdiibbehbaaDoor.Ca
open Go.RowKit Go.Lib
set_option linter.unusedVariables false

/-- there is such a moment -/
def vldB (y mo d h mi : Int) : Bool := decide (1 ≤ d ∧ d ≤ dm y mo ∧ 0 ≤ h ∧ h < 24 ∧ 0 ≤ mi ∧ mi < 60)
theorem vldB_true {y mo d h mi : Int} : vldB y mo d h mi = true ↔ (1 ≤ d ∧ d ≤ dm y mo ∧ 0 ≤ h ∧ h < 24 ∧ 0 ≤ mi ∧ mi < 60) := by unfold vldB; exact decide_eq_true_iff
theorem vldB_false {y mo d h mi : Int} (k : ¬ (1 ≤ d ∧ d ≤ dm y mo ∧ 0 ≤ h ∧ h < 24 ∧ 0 ≤ mi ∧ mi < 60)) : vldB y mo d h mi = false := decide_eq_false k

set_option maxRecDepth 20000 in
set_option maxHeartbeats 3000000 in
theorem isMoment_any (y mo d wd h mi : Int) (w : World) (hy : I64 y) (hm : I64 mo) (hd : I64 d) (hh : I64 h) (hi : I64 mi) :
    Calls Tryd.prog 16 #[mom y mo d wd h mi] w fun e w' => e = .returned (.bool (vldB y mo d h mi)) ∧ Below w.heap.size w w' := by
  have hq := fun W => Days_any y mo W hy hm
  obtain ⟨L, eL⟩ : ∃ L, L = dm y mo := ⟨_, rfl⟩
  have hL := dm_le y mo
  have hcase : (∃ b, vldB y mo d h mi = b) := ⟨_, rfl⟩
  obtain ⟨b, hb⟩ := hcase
  have hv : (d < 1 ∧ b = false) ∨ (1 ≤ d ∧ L < d ∧ b = false) ∨ (1 ≤ d ∧ d ≤ L ∧ h < 0 ∧ b = false) ∨ (1 ≤ d ∧ d ≤ L ∧ 0 ≤ h ∧ 24 ≤ h ∧ b = false) ∨ (1 ≤ d ∧ d ≤ L ∧ 0 ≤ h ∧ h < 24 ∧ mi < 0 ∧ b = false)
      ∨ (1 ≤ d ∧ d ≤ L ∧ 0 ≤ h ∧ h < 24 ∧ 0 ≤ mi ∧ 60 ≤ mi ∧ b = false) ∨ (1 ≤ d ∧ d ≤ L ∧ 0 ≤ h ∧ h < 24 ∧ 0 ≤ mi ∧ mi < 60 ∧ b = true) := by
    by_cases k : 1 ≤ d ∧ d ≤ dm y mo ∧ 0 ≤ h ∧ h < 24 ∧ 0 ≤ mi ∧ mi < 60
    · have := vldB_true.2 k
      rw [hb] at this
      rw [← eL] at k
      simp only [this, Bool.true_eq_false, and_false, and_true, false_or]
      omega
    · have := vldB_false k
      rw [hb] at this
      rw [← eL] at k
      simp only [this, Bool.false_eq_true, and_false, and_true, or_false]
      omega
  rw [← eL] at hL
  simp only [← eL] at hq
  rw [hb]
  clear hb eL
  unfold I64 at hd hh hi
  rcases hv with ⟨k1, rfl⟩ | ⟨k1, k2, rfl⟩ | ⟨k1, k2, k3, rfl⟩ | ⟨k1, k2, k3, k4, rfl⟩ | ⟨k1, k2, k3, k4, k5, rfl⟩ | ⟨k1, k2, k3, k4, k5, k6, rfl⟩ | ⟨k1, k2, k3, k4, k5, k6, rfl⟩
  · have b1 : decide (1 ≤ d) = false := decide_eq_false (by omega)
    go_enter Tryd.func16, Tryd.ntmps16
    go_wp2_with fail
    go_quiet ((go_at_call 13; exact Calls.quiet_of_same (hq _)))
    go_wp2_with fail
    go_ret
    exact ⟨rfl, below_drewN ((Below.refl _ _).alloc (Nat.le_refl _) _) _⟩
  · have b1 : decide (1 ≤ d) = true := decide_eq_true (by omega)
    have b2 : decide (d ≤ L) = false := decide_eq_false (by omega)
    go_enter Tryd.func16, Tryd.ntmps16
    go_wp2_with fail
    go_quiet ((go_at_call 13; exact Calls.quiet_of_same (hq _)))
    go_wp2_with fail
    go_ret
    exact ⟨rfl, below_drewN ((Below.refl _ _).alloc (Nat.le_refl _) _) _⟩
  · have b1 : decide (1 ≤ d) = true := decide_eq_true (by omega)
    have b2 : decide (d ≤ L) = true := decide_eq_true (by omega)
    have b3 : decide (0 ≤ h) = false := decide_eq_false (by omega)
    go_enter Tryd.func16, Tryd.ntmps16
    go_wp2_with fail
    go_quiet ((go_at_call 13; exact Calls.quiet_of_same (hq _)))
    go_wp2_with fail
    go_ret
    exact ⟨rfl, below_drewN ((Below.refl _ _).alloc (Nat.le_refl _) _) _⟩
  · have b1 : decide (1 ≤ d) = true := decide_eq_true (by omega)
    have b2 : decide (d ≤ L) = true := decide_eq_true (by omega)
    have b3 : decide (0 ≤ h) = true := decide_eq_true (by omega)
    have b4 : decide (h < 24) = false := decide_eq_false (by omega)
    go_enter Tryd.func16, Tryd.ntmps16
    go_wp2_with fail
    go_quiet ((go_at_call 13; exact Calls.quiet_of_same (hq _)))
    go_wp2_with fail
    go_ret
    exact ⟨rfl, below_drewN ((Below.refl _ _).alloc (Nat.le_refl _) _) _⟩
  · have b1 : decide (1 ≤ d) = true := decide_eq_true (by omega)
    have b2 : decide (d ≤ L) = true := decide_eq_true (by omega)
    have b3 : decide (0 ≤ h) = true := decide_eq_true (by omega)
    have b4 : decide (h < 24) = true := decide_eq_true (by omega)
    have b5 : decide (0 ≤ mi) = false := decide_eq_false (by omega)
    go_enter Tryd.func16, Tryd.ntmps16
    go_wp2_with fail
    go_quiet ((go_at_call 13; exact Calls.quiet_of_same (hq _)))
    go_wp2_with fail
    go_ret
    exact ⟨rfl, below_drewN ((Below.refl _ _).alloc (Nat.le_refl _) _) _⟩
  all_goals
    have b1 : decide (1 ≤ d) = true := decide_eq_true (by omega)
    have b2 : decide (d ≤ L) = true := decide_eq_true (by omega)
    have b3 : decide (0 ≤ h) = true := decide_eq_true (by omega)
    have b4 : decide (h < 24) = true := decide_eq_true (by omega)
    have b5 : decide (0 ≤ mi) = true := decide_eq_true (by omega)
    first
    | have b6 : decide (mi < 60) = false := decide_eq_false (by omega)
    | have b6 : decide (mi < 60) = true := decide_eq_true (by omega)
    go_enter Tryd.func16, Tryd.ntmps16
    go_wp2_with fail
    go_quiet ((go_at_call 13; exact Calls.quiet_of_same (hq _)))
    go_wp2_with fail
    go_ret
    exact ⟨rfl, below_drewN ((Below.refl _ _).alloc (Nat.le_refl _) _) _⟩
end Go.Proofs.YtipcfdiibbehbaaDoor.Ca
