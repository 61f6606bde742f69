
/- two digits; a year's digits -/
import Derived.Test.YtipcfdiibbehbaaDoorCaT
import Derived.Test.YtipcfdiibbehbaaDoorItoa
import Derived.Lib.SmallJoins
import Derived.Lib.ItoaMem
namespace Go.Proofs.YtipcfdiibbehbaaDoor.Ca
open Go.RowKit Go.Lib
set_option linter.unusedVariables false

theorem below_grow {w w' : World} {k : Nat} {os : Array Obj} (h : w' = Sort.grow (w.drewN k) os) : Below w.heap.size w w' := by
  subst h
  exact ⟨rfl, rfl, rfl, by simp, fun j hj => Sort.heap_grow_old (w.drewN k) os hj⟩
/-- the table of powers lies -/
def Tab (w : World) : Prop := TabIs Tryd.prog w "internal/strconv.uint64pow10" .u64 pow10Tab
theorem Tab.old {w w' : World} (h : Tab w) (hb : Below w.heap.size w w') : Tab w' :=
  Joins.tab_stays (show Tryd.prog.globalNamed "internal/strconv.uint64pow10" = some 0 by kernel_rfl) h hb (Nat.le_refl _)
theorem itoa_year (Y : Nat) (w : World) (h2 : Y ≤ 3000000) (ht : Tab w) :
    Calls Tryd.prog 14 #[.int .i64 (Y : Nat)] w fun e w' => e = .returned (.string ⟨(decDigits Y).toArray⟩) ∧ Below w.heap.size w w' := by
  refine (Tryd.strconv_Itoa (Y : Nat) (by omega) (by omega) w ht).mono ?_
  rintro e w' ⟨rfl, k, os, hw⟩
  exact ⟨by rw [itoa_nonneg], below_grow hw⟩
theorem two_any (x : Nat) (w : World) (h : x < 100) :
    Calls Tryd.prog 15 #[.int .i64 (x : Nat)] w fun e w' => e = .returned (.string ⟨(two x).toArray⟩) ∧ Below w.heap.size w w' := by
  have hc := Tryd.strconv_Itoa_small x h w
  have e0 : x < 10 → (⟨#[48]⟩ : ByteArray) ++ ⟨(decDigits x).toArray⟩ = ⟨(two x).toArray⟩ := fun h1 => by
    rw [decDigits_one h1]
    refine (str_cons _ _).trans ?_
    unfold two
    rw [Nat.div_eq_of_lt h1, Nat.mod_eq_of_lt h1]; rfl
  have e1 : ¬ x < 10 → decDigits x = two x := fun h1 => decDigits_two h1 h
  have hl : (decDigits x).length ≤ 2 := by
    by_cases h1 : x < 10
    · rw [decDigits_one h1]; simp
    · rw [decDigits_two h1 h]; simp
  obtain ⟨l, el⟩ : ∃ l, l = decDigits x := ⟨_, rfl⟩
  rw [← el] at hc e0 e1 hl
  have HC := Lib.hid (And.intro hc (And.intro e0 e1))
  clear hc e0 e1 el
  by_cases h1 : (x : Int) < 10
  all_goals
    go_enter Tryd.func15, Tryd.ntmps15
    go_wp2_with fail
    refine HC.out.1.mono ?_
    rintro e w' ⟨rfl, rfl⟩
    go_wp2_with fail
    go_ret
    first
    | exact ⟨congrArg (fun s => Ending.returned (.string s)) (HC.out.2.1 (by omega)), Below.refl _ _⟩
    | exact ⟨by rw [← HC.out.2.2 (by omega)]; rfl, Below.refl _ _⟩
end Go.Proofs.YtipcfdiibbehbaaDoor.Ca
