
/- the calendar's contracts: leap years, days of months, days ahead of a year -/
import Derived.Test.YtkkanggkbbmfnaaGreatDoorCaM
import Derived.WalkKit
import Derived.ProofKit
import Derived.OneCell
import Derived.WalkSpells
import Derived.Lib.Hide
namespace Go.Proofs.YtkkanggkbbmfnaaGreatDoor.Ca
open Go.RowKit Go.Lib
set_option linter.unusedVariables false

/-- a number of 64 bits with its sign -/
def I64 (x : Int) : Prop := -9223372036854775808 ≤ x ∧ x ≤ 9223372036854775807

theorem rem_in {y : Int} {k : Int} (hk : 0 < k) : -k < y.tmod k ∧ y.tmod k < k := by
  have h1 := Int.tmod_lt_of_pos y hk
  have h2 := Int.lt_tmod_of_pos y hk
  omega
theorem rem_4 {y : Int} : -4 < y.tmod 4 ∧ y.tmod 4 < 4 := rem_in (by omega)
theorem rem_100 {y : Int} : -100 < y.tmod 100 ∧ y.tmod 100 < 100 := rem_in (by omega)
theorem rem_400 {y : Int} : -400 < y.tmod 400 ∧ y.tmod 400 < 400 := rem_in (by omega)

theorem Leap_any (y : Int) (w : World) (hy : I64 y) :
    Calls Tryz.prog 110 #[.int .i64 y] w fun e w' => e = .returned (.bool (lp y)) ∧ w' = w := by
  unfold I64 at hy
  have r4 := @rem_4 y
  have r1 := @rem_100 y
  have r0 := @rem_400 y
  go_enter Tryz.func110, Tryz.ntmps110
  go_wp2
  all_goals
    go_ret
    refine ⟨congrArg (fun b => Ending.returned (.bool b)) ?_, rfl⟩
    unfold lp
    by_cases a : y.tmod 4 = 0 <;> by_cases b : y.tmod 100 = 0 <;> by_cases c : y.tmod 400 = 0 <;> simp_all
  
theorem Days_any (y m : Int) (w : World) (hy : I64 y) (hm : I64 m) :
    Calls Tryz.prog 93 #[.int .i64 y, .int .i64 m] w fun e w' => e = .returned (.int .i64 (dm y m)) ∧ w' = w := by
  have hY := Lib.hid hy
  clear hy
  unfold I64 at hm
  by_cases c1 : m = 1 ∨ m = 3 ∨ m = 5 ∨ m = 7 ∨ m = 8 ∨ m = 10 ∨ m = 12
  · have e : dm y m = 31 := by unfold dm; rw [if_pos c1]
    rcases c1 with rfl | rfl | rfl | rfl | rfl | rfl | rfl
    all_goals
      go_enter Tryz.func93, Tryz.ntmps93
      go_wp2
      go_ret
      exact ⟨by rw [e]; rfl, rfl⟩
  by_cases c2 : m = 4 ∨ m = 6 ∨ m = 9 ∨ m = 11
  · have e : dm y m = 30 := by unfold dm; rw [if_neg c1, if_pos c2]
    rcases c2 with rfl | rfl | rfl | rfl
    all_goals
      go_enter Tryz.func93, Tryz.ntmps93
      go_wp2
      go_ret
      exact ⟨by rw [e]; rfl, rfl⟩
  by_cases c3 : m = 2
  · subst c3
    cases hl : lp y
    · have e : dm y 2 = 28 := by unfold dm; rw [if_neg c1, if_neg c2, if_pos rfl, if_neg (by rw [hl]; decide)]
      clear c1 c2
      go_enter Tryz.func93, Tryz.ntmps93
      go_wp2_with fail
      refine (Leap_any y w hY.out).mono ?_
      rintro x w' ⟨rfl, rfl⟩
      rw [hl]
      go_wp2_with fail
      go_ret
      exact ⟨by rw [e]; rfl, rfl⟩
    · have e : dm y 2 = 29 := by unfold dm; rw [if_neg c1, if_neg c2, if_pos rfl, if_pos hl]
      clear c1 c2
      go_enter Tryz.func93, Tryz.ntmps93
      go_wp2_with fail
      refine (Leap_any y w hY.out).mono ?_
      rintro x w' ⟨rfl, rfl⟩
      rw [hl]
      go_wp2_with fail
      go_ret
      exact ⟨by rw [e]; rfl, rfl⟩
  · have e : dm y m = 0 := by unfold dm; rw [if_neg c1, if_neg c2, if_neg c3]
    have d1 : m ≠ 1 := by omega
    have d2 : m ≠ 2 := by omega
    have d3 : m ≠ 3 := by omega
    have d4 : m ≠ 4 := by omega
    have d5 : m ≠ 5 := by omega
    have d6 : m ≠ 6 := by omega
    have d7 : m ≠ 7 := by omega
    have d8 : m ≠ 8 := by omega
    have d9 : m ≠ 9 := by omega
    have d10 : m ≠ 10 := by omega
    have d11 : m ≠ 11 := by omega
    have d12 : m ≠ 12 := by omega
    clear c1 c2 c3
    go_enter Tryz.func93, Tryz.ntmps93
    go_wp2
    go_ret
    exact ⟨by rw [e]; rfl, rfl⟩

theorem outside_any (t : Int) (w : World) (ht : I64 t) :
    Calls Tryz.prog 90 #[.int .i64 t] w fun e w' => e = .returned (.bool (decide (t < 0 ∨ 1099511627776 < t))) ∧ w' = w := by
  unfold I64 at ht
  by_cases h1 : t < 0
  · rw [decide_eq_true (Or.inl h1)]
    go_enter Tryz.func90, Tryz.ntmps90
    go_wp2
    go_ret
    exact ⟨rfl, rfl⟩
  by_cases h2 : 1099511627776 < t
  · rw [decide_eq_true (Or.inr h2)]
    go_enter Tryz.func90, Tryz.ntmps90
    go_wp2
    go_ret
    exact ⟨rfl, rfl⟩
  · rw [decide_eq_false (by omega)]
    go_enter Tryz.func90, Tryz.ntmps90
    go_wp2
    go_ret
    exact ⟨rfl, rfl⟩

/-- a year whose days can be counted -/
def Yr (y : Int) : Prop := 2000 ≤ y ∧ y ≤ 3000000
theorem ahead_any (y : Int) (w : World) (hy : Yr y) :
    Calls Tryz.prog 92 #[.int .i64 y] w fun e w' => e = .returned (.int .i64 (ah y)) ∧ w' = w := by
  unfold Yr at hy
  obtain ⟨z, rfl⟩ : ∃ z : Int, y = 2000 + z := ⟨y - 2000, by omega⟩
  go_enter Tryz.func92, Tryz.ntmps92
  go_wp2
  go_ret
  refine ⟨congrArg (fun x => Ending.returned (.int .i64 x)) ?_, rfl⟩
  unfold ah
  omega

/-- a day that a tick can have -/
def Dy (d : Int) : Prop := 0 ≤ d ∧ d ≤ 800000000
theorem yearOf_any (d : Int) (w : World) (hd : Dy d) :
    Calls Tryz.prog 91 #[.int .i64 d] w fun e w' => (∃ y, e = .returned (.int .i64 y) ∧ Yr y ∧ ah y ≤ d ∧ d < ah (y + 1)) ∧ w' = w := by
  unfold Dy at hd
  by_cases h2 : d < 2
  · have : d = 0 ∨ d = 1 := by omega
    rcases this with rfl | rfl
    all_goals
      go_enter Tryz.func91, Tryz.ntmps91
      go_wp2_with fail
      refine (ahead_any _ w (by unfold Yr; omega)).mono ?_
      rintro x w' ⟨rfl, rfl⟩
      rw [show ah 2001 = 366 from rfl]
      go_wp2_with fail
      go_ret
      exact ⟨⟨2000, rfl, by unfold Yr; omega, by decide, by decide⟩, rfl⟩
  · have hz := year_of (d := d) (by omega)
    obtain ⟨z, ez⟩ : ∃ z, z = (d - 2) * 400 / 146097 := ⟨_, rfl⟩
    rw [← ez] at hz
    have hb : 0 ≤ z ∧ z ≤ 2500000 := by omega
    go_enter Tryz.func91, Tryz.ntmps91
    go_wp2_with fail
    refine (ahead_any _ w (by unfold Yr; omega)).mono ?_
    rintro x w' ⟨rfl, rfl⟩
    rw [← ez]
    by_cases hle : ah (2000 + z + 1) ≤ d
    all_goals
      obtain ⟨A, eA⟩ : ∃ A, A = ah (2000 + z + 1) := ⟨_, rfl⟩
      rw [← eA] at hle ⊢
      have EA := Lib.hid eA
      have HZ := Lib.hid hz
      have EZ := Lib.hid ez
      clear eA hz ez
      go_wp2_with fail
      go_ret
      first | exact ⟨⟨2000 + z, by rw [EZ.out]; rfl, by unfold Yr; omega, HZ.out.1, by rw [← EA.out]; omega⟩, rfl⟩ | exact ⟨⟨2000 + z + 1, by rw [EZ.out]; rfl, by unfold Yr; omega, by rw [← EA.out]; omega, by rw [show 2000 + z + 1 + 1 = 2000 + z + 2 by omega]; exact HZ.out.2⟩, rfl⟩
end Go.Proofs.YtkkanggkbbmfnaaGreatDoor.Ca
