/- plain mathematics of the calendar -/
import Derived.Test.YtcodjknhnhdkfaaGreatDoorRows
import Derived.WalkKit
import Derived.ProofKit
import Derived.OneCell
import Derived.WalkSpells
import Derived.Lib.Hide
import Derived.Laws.Rows
import Derived.Laws.NewBlocks
import Derived.OwnWalk
import Derived.Deep.QuietTactic
import Derived.BigQuiet
import Derived.StillTailTactics
import Derived.Deep.RegionWith
import Derived.IntWalk
import Derived.WalkSmall
namespace Go.Proofs.YtcodjknhnhdkfaaGreatDoor.Ca
set_option linter.unusedVariables false

/-- has a year 366 days? -/
def lp (y : Int) : Bool := (decide (y.tmod 4 = 0) && !decide (y.tmod 100 = 0)) || decide (y.tmod 400 = 0)
/-- a month's days -/
def dm (y m : Int) : Int :=
  if m = 1 ∨ m = 3 ∨ m = 5 ∨ m = 7 ∨ m = 8 ∨ m = 10 ∨ m = 12 then 31
  else if m = 4 ∨ m = 6 ∨ m = 9 ∨ m = 11 then 30
  else if m = 2 then (if lp y = true then 29 else 28) else 0
/-- a year's days -/
def yl (y : Int) : Int := if lp y = true then 366 else 365
/-- the days ahead of a year -/
def ah (y : Int) : Int := 365 * (y - 2000) + (y - 2000 + 3) / 4 - (y - 2000 + 99) / 100 + (y - 2000 + 399) / 400
/-- the days of a year ahead of a month -/
def mb (y m : Int) : Int :=
  let f := if lp y = true then 1 else 0
  if m ≤ 1 then 0 else if m = 2 then 31 else f + (if m = 3 then 59 else if m = 4 then 90 else if m = 5 then 120 else if m = 6 then 151 else if m = 7 then 181
    else if m = 8 then 212 else if m = 9 then 243 else if m = 10 then 273 else if m = 11 then 304 else if m = 12 then 334 else 365)

theorem lp_iff {y : Int} (h : 0 ≤ y) : lp y = true ↔ (y % 4 = 0 ∧ y % 100 ≠ 0 ∨ y % 400 = 0) := by
  unfold lp
  simp only [Bool.or_eq_true, Bool.and_eq_true, Bool.not_eq_true', decide_eq_true_eq, decide_eq_false_iff_not]
  rw [Int.tmod_eq_emod_of_nonneg h, Int.tmod_eq_emod_of_nonneg h, Int.tmod_eq_emod_of_nonneg h]
theorem ah_succ {y : Int} (h : 2000 ≤ y) : ah (y + 1) = ah y + yl y := by
  unfold yl
  by_cases hl : lp y = true
  · rw [if_pos hl]
    rw [lp_iff (by omega)] at hl
    unfold ah
    omega
  · rw [if_neg hl]
    rw [lp_iff (by omega)] at hl
    unfold ah
    omega
theorem yl_pos (y : Int) : 365 ≤ yl y ∧ yl y ≤ 366 := by unfold yl; split <;> omega
theorem ah_ge {y : Int} (_ : 2000 ≤ y) : 365 * (y - 2000) ≤ ah y := by unfold ah; omega
theorem ah_le {y : Int} (_ : 2000 ≤ y) : ah y ≤ 366 * (y - 2000) := by unfold ah; omega
theorem ah_mono {x y : Int} (h : 2000 ≤ x) (hxy : x ≤ y) : ah x ≤ ah y := by unfold ah; omega
theorem ah_400 {y : Int} : ah (y + 400) = ah y + 146097 := by unfold ah; omega
theorem ah_cyc (q : Int) : ah (2000 + 400 * q) = 146097 * q := by unfold ah; omega
/-- a day's year -/
theorem year_of {d : Int} (h : 2 ≤ d) : ah (2000 + (d - 2) * 400 / 146097) ≤ d ∧ d < ah (2000 + (d - 2) * 400 / 146097 + 2) := by unfold ah; omega

theorem mb_one (y : Int) : mb y 1 = 0 := rfl
theorem mb_succ {y m : Int} (h1 : 1 ≤ m) (h2 : m ≤ 12) : mb y (m + 1) = mb y m + dm y m := by
  have : m = 1 ∨ m = 2 ∨ m = 3 ∨ m = 4 ∨ m = 5 ∨ m = 6 ∨ m = 7 ∨ m = 8 ∨ m = 9 ∨ m = 10 ∨ m = 11 ∨ m = 12 := by omega
  unfold mb dm
  rcases this with rfl | rfl | rfl | rfl | rfl | rfl | rfl | rfl | rfl | rfl | rfl | rfl <;> cases lp y <;> decide
theorem mb_year (y : Int) : mb y 13 = yl y := by unfold mb yl; cases lp y <;> decide
theorem dm_pos {y m : Int} (h1 : 1 ≤ m) (h2 : m ≤ 12) : 28 ≤ dm y m ∧ dm y m ≤ 31 := by
  unfold dm; repeat' split
  all_goals omega
theorem dm_none {y m : Int} (h : m < 1 ∨ 12 < m) : dm y m = 0 := by
  unfold dm; repeat' split
  all_goals omega
theorem dm_le (y m : Int) : 0 ≤ dm y m ∧ dm y m ≤ 31 := by
  unfold dm; repeat' split
  all_goals omega
theorem mb_le {y m n : Int} (h1 : 1 ≤ m) (h2 : m ≤ n) (h3 : n ≤ 13) : mb y m ≤ mb y n := by
  obtain ⟨k, rfl⟩ : ∃ k : Nat, n = m + k := ⟨(n - m).toNat, by omega⟩
  clear h2
  induction k with
  | zero => simp
  | succ k ih =>
    have := ih (by omega)
    have e := mb_succ (y := y) (m := m + k) (by omega) (by omega)
    have p := dm_pos (y := y) (m := m + k) (by omega) (by omega)
    rw [show m + ((k + 1 : Nat) : Int) = m + k + 1 by omega]
    omega
theorem mb_nonneg (y : Int) {m : Int} (h1 : 1 ≤ m) (h2 : m ≤ 13) : 0 ≤ mb y m ∧ mb y m ≤ 366 := by
  have a := mb_le (y := y) (m := 1) (n := m) (by omega) h1 h2
  have b := mb_le (y := y) (m := m) (n := 13) h1 h2 (by omega)
  rw [mb_one] at a
  rw [mb_year] at b
  have := yl_pos y
  omega
theorem lp_400 {y : Int} (h : 0 ≤ y) : lp (y + 400) = lp y := by
  have := lp_iff h
  have h2 := lp_iff (y := y + 400) (by omega)
  have : lp (y + 400) = true ↔ lp y = true := by rw [h2, this]; omega
  cases h3 : lp (y + 400) <;> cases h4 : lp y <;> simp_all

/-- this is a tick's moment -/
structure IsM (t y mo d wd h mi : Int) : Prop where
  y0 : 2000 ≤ y
  m1 : 1 ≤ mo
  m2 : mo ≤ 12
  d1 : 1 ≤ d
  d2 : d ≤ dm y mo
  day : ah y + mb y mo + (d - 1) = t / 1440
  wd : wd = (t / 1440 + 6) % 7
  h : h = t % 1440 / 60
  mi : mi = t % 60

theorem IsM.year {t y mo d wd h mi : Int} (i : IsM t y mo d wd h mi) : ah y ≤ t / 1440 ∧ t / 1440 < ah (y + 1) := by
  have h1 := i.day; have h2 := mb_nonneg y i.m1 (by have := i.m2; omega); have h3 := i.d1; have h4 := i.d2
  have h5 := mb_succ (y := y) i.m1 i.m2
  have h6 := mb_le (y := y) (m := mo + 1) (n := 13) (by have := i.m1; omega) (by have := i.m2; omega) (by omega)
  rw [mb_year] at h6
  rw [ah_succ i.y0]
  omega

/-- later is later, part by part -/
theorem IsM.lt {a b y mo d wd h mi y' mo' d' wd' h' mi' : Int} (i : IsM a y mo d wd h mi) (j : IsM b y' mo' d' wd' h' mi') (hab : a < b) (h0 : 0 ≤ a) :
    y < y' ∨ y = y' ∧ (mo < mo' ∨ mo = mo' ∧ (d < d' ∨ d = d' ∧ (h < h' ∨ h = h' ∧ mi < mi'))) := by
  have hD : a / 1440 ≤ b / 1440 := by omega
  have yi := i.year; have yj := j.year
  by_cases hy : y < y'
  · exact .inl hy
  by_cases hy' : y' < y
  · exfalso
    have := ah_mono (x := y' + 1) (y := y) (by have := j.y0; omega) (by omega)
    omega
  obtain rfl : y = y' := by omega
  refine .inr ⟨rfl, ?_⟩
  have di := i.day; have dj := j.day
  have := i.d1; have := j.d1; have := i.d2; have := j.d2
  by_cases hm : mo < mo'
  · exact .inl hm
  by_cases hm' : mo' < mo
  · exfalso
    have h6 := mb_le (y := y) (m := mo' + 1) (n := mo) (by have := j.m1; omega) (by omega) (by have := i.m2; omega)
    rw [mb_succ j.m1 j.m2] at h6
    omega
  obtain rfl : mo = mo' := by omega
  refine .inr ⟨rfl, ?_⟩
  by_cases hd : d < d'
  · exact .inl hd
  refine .inr ⟨by omega, ?_⟩
  have hE : a / 1440 = b / 1440 := by omega
  rw [i.h, j.h, i.mi, j.mi]
  omega
theorem IsM.same {a y mo d wd h mi y' mo' d' wd' h' mi' : Int} (i : IsM a y mo d wd h mi) (j : IsM a y' mo' d' wd' h' mi') :
    y = y' ∧ mo = mo' ∧ d = d' ∧ wd = wd' ∧ h = h' ∧ mi = mi' := by
  have yi := i.year; have yj := j.year
  have hy : y = y' := by
    rcases Int.lt_trichotomy y y' with h | h | h
    · have := ah_mono (x := y + 1) (y := y') (by have := i.y0; omega) (by omega); omega
    · exact h
    · have := ah_mono (x := y' + 1) (y := y) (by have := j.y0; omega) (by omega); omega
  subst hy
  have di := i.day; have dj := j.day
  have := i.d1; have := j.d1; have := i.d2; have := j.d2
  have hm : mo = mo' := by
    rcases Int.lt_trichotomy mo mo' with h | h | h
    · have h6 := mb_le (y := y) (m := mo + 1) (n := mo') (by have := i.m1; omega) (by omega) (by have := j.m2; omega)
      rw [mb_succ i.m1 i.m2] at h6; omega
    · exact h
    · have h6 := mb_le (y := y) (m := mo' + 1) (n := mo) (by have := j.m1; omega) (by omega) (by have := i.m2; omega)
      rw [mb_succ j.m1 j.m2] at h6; omega
  subst hm
  exact ⟨rfl, rfl, by omega, by rw [i.wd, j.wd], by rw [i.h, j.h], by rw [i.mi, j.mi]⟩

/-- a moment's tick -/
def tk (y mo d h mi : Int) : Int := (ah y + mb y mo + (d - 1)) * 1440 + (h * 60 + mi)
theorem IsM.tk {a y mo d wd h mi : Int} (i : IsM a y mo d wd h mi) : tk y mo d h mi = a := by
  unfold Ca.tk; rw [i.day, i.h, i.mi]; omega
theorem isM_tk {y mo d h mi : Int} (y0 : 2000 ≤ y) (m1 : 1 ≤ mo) (m2 : mo ≤ 12) (d1 : 1 ≤ d) (d2 : d ≤ dm y mo) (h0 : 0 ≤ h) (h1 : h < 24) (i0 : 0 ≤ mi) (i1 : mi < 60) :
    IsM (Ca.tk y mo d h mi) y mo d ((ah y + mb y mo + (d - 1) + 6) % 7) h mi := by
  have e : Ca.tk y mo d h mi / 1440 = ah y + mb y mo + (d - 1) := by unfold Ca.tk; omega
  refine ⟨y0, m1, m2, d1, d2, e.symm, by rw [e], ?_, ?_⟩ <;> unfold Ca.tk <;> omega
theorem tk_nonneg {y mo d h mi : Int} (y0 : 2000 ≤ y) (m1 : 1 ≤ mo) (m2 : mo ≤ 12) (d1 : 1 ≤ d) (h0 : 0 ≤ h) (i0 : 0 ≤ mi) : 0 ≤ Ca.tk y mo d h mi := by
  have := ah_ge y0; have := mb_nonneg y m1 (by omega); unfold Ca.tk; omega
/-- a day later -/
theorem IsM.day1 {t y mo d wd h mi : Int} (i : IsM t y mo d wd h mi) (hd : d < dm y mo) : IsM (t + 1440) y mo (d + 1) ((wd + 1) % 7) h mi := by
  have h1 := i.day; have h2 := i.wd; have h3 := i.h; have h4 := i.mi; have h5 := i.d1
  exact ⟨i.y0, i.m1, i.m2, by omega, by omega, by omega, by omega, by omega, by omega⟩
theorem IsM.month1 {t y mo d wd h mi : Int} (i : IsM t y mo d wd h mi) (hd : ¬ d < dm y mo) (hm : mo < 12) : IsM (t + 1440) y (mo + 1) 1 ((wd + 1) % 7) h mi := by
  have h1 := i.day; have h2 := i.wd; have h3 := i.h; have h4 := i.mi; have h5 := i.d1; have h6 := i.d2; have h7 := i.m1
  have h8 := mb_succ (y := y) i.m1 i.m2
  have h9 := dm_pos (y := y) (m := mo + 1) (by omega) (by omega)
  exact ⟨i.y0, by omega, by omega, by omega, by omega, by omega, by omega, by omega, by omega⟩
theorem IsM.year1 {t y mo d wd h mi : Int} (i : IsM t y mo d wd h mi) (hd : ¬ d < dm y mo) (hm : ¬ mo < 12) : IsM (t + 1440) (y + 1) 1 1 ((wd + 1) % 7) h mi := by
  have h1 := i.day; have h2 := i.wd; have h3 := i.h; have h4 := i.mi; have h5 := i.d1; have h6 := i.d2; have h7 := i.m1; have h0 := i.y0
  obtain rfl : mo = 12 := by have := i.m2; omega
  have h8 := mb_succ (y := y) i.m1 i.m2
  rw [show (12 : Int) + 1 = 13 by rfl, mb_year] at h8
  have h9 := dm_pos (y := y + 1) (m := 1) (by omega) (by omega)
  have h10 := ah_succ i.y0
  have h11 := mb_one (y + 1)
  exact ⟨by omega, by omega, by omega, by omega, by omega, by omega, by omega, by omega, by omega⟩
/-- 400 years later -/
theorem IsM.era {t y mo d wd h mi : Int} (i : IsM t y mo d wd h mi) : IsM (t + 210379680) (y + 400) mo d wd h mi := by
  have h1 := i.day; have h2 := i.wd; have h3 := i.h; have h4 := i.mi; have h0 := i.y0
  have e := lp_400 (y := y) (by omega)
  have e1 : dm (y + 400) mo = dm y mo := by unfold dm; rw [e]
  have e2 : mb (y + 400) mo = mb y mo := by unfold mb; rw [e]
  have e3 := ah_400 (y := y)
  exact ⟨by omega, i.m1, i.m2, i.d1, by rw [e1]; exact i.d2, by omega, by omega, by omega, by omega⟩
/-- the chapter's example -/
theorem isM_1440 : IsM 1440 2000 1 2 0 0 0 := ⟨by decide, by decide, by decide, by decide, by decide, by decide, by decide, by decide, by decide⟩
/-- the first part in which two moments differ is less in the earlier one -/
theorem IsM.first {a b y mo d wd h mi y' mo' d' wd' h' mi' : Int} (i : IsM a y mo d wd h mi) (j : IsM b y' mo' d' wd' h' mi') (hab : a < b) (h0 : 0 ≤ a) :
    ∃ n : Nat, n < 5 ∧ (∀ k, k < n → [y, mo, d, h, mi].getD k 0 = [y', mo', d', h', mi'].getD k 0) ∧ [y, mo, d, h, mi].getD n 0 < [y', mo', d', h', mi'].getD n 0 := by
  rcases i.lt j hab h0 with h | ⟨rfl, h | ⟨rfl, h | ⟨rfl, h | ⟨rfl, h⟩⟩⟩⟩
  · exact ⟨0, by omega, fun k hk => by omega, h⟩
  · exact ⟨1, by omega, fun k hk => by obtain rfl : k = 0 := by omega
                                       rfl, h⟩
  · exact ⟨2, by omega, fun k hk => by have : k = 0 ∨ k = 1 := by omega
                                       rcases this with rfl | rfl <;> rfl, h⟩
  · exact ⟨3, by omega, fun k hk => by have : k = 0 ∨ k = 1 ∨ k = 2 := by omega
                                       rcases this with rfl | rfl | rfl <;> rfl, h⟩
  · exact ⟨4, by omega, fun k hk => by have : k = 0 ∨ k = 1 ∨ k = 2 ∨ k = 3 := by omega
                                       rcases this with rfl | rfl | rfl | rfl <;> rfl, h⟩
end Go.Proofs.YtcodjknhnhdkfaaGreatDoor.Ca
namespace Go.Proofs.YtcodjknhnhdkfaaGreatDoor.Ca
open Go.RowKit Go.Lib
set_option linter.unusedVariables false

/-- a number of 64 bits with its sign -/
def I64 (x : Int) : Prop := -9223372036854775808 ≤ x ∧ x ≤ 9223372036854775807

theorem rem_in {y : Int} {k : Int} (hk : 0 < k) : -k < y.tmod k ∧ y.tmod k < k := by
  have h1 := Int.tmod_lt_of_pos y hk
  have h2 := Int.lt_tmod_of_pos y hk
  omega
theorem rem_4 {y : Int} : -4 < y.tmod 4 ∧ y.tmod 4 < 4 := rem_in (by omega)
theorem rem_100 {y : Int} : -100 < y.tmod 100 ∧ y.tmod 100 < 100 := rem_in (by omega)
theorem rem_400 {y : Int} : -400 < y.tmod 400 ∧ y.tmod 400 < 400 := rem_in (by omega)

/-- a year whose days can be counted -/
def Yr (y : Int) : Prop := 2000 ≤ y ∧ y ≤ 3000000
/-- a day that a tick can have -/
def Dy (d : Int) : Prop := 0 ≤ d ∧ d ≤ 800000000
end Go.Proofs.YtcodjknhnhdkfaaGreatDoor.Ca
namespace Go.Proofs.YtcodjknhnhdkfaaGreatDoor.Ca
open Go.RowKit Go.Lib
set_option linter.unusedVariables false

theorem results_c1 {fn : Func} {p : Tmp} {ty : TypeId} (h : fn.results = #[.cell p ty]) (tmps : Array Value) (P : Program) (w : World) :
    (results fn tmps).run P w = ((asAddr (tmps.getD p undef)).run P w).andThen fun a w₁ => (loadVar ty a).run P w₁ := by
  simp only [results, h]
  simp [Sem.run_bind, Result.andThen]
theorem results_c2 {fn : Func} {p a : Tmp} {ty : TypeId} (h : fn.results = #[.cell p ty, .tmp a]) (tmps : Array Value) (P : Program) (w : World) :
    (results fn tmps).run P w =
      ((asAddr (tmps.getD p undef)).run P w).andThen fun x w₁ => ((loadVar ty x).run P w₁).andThen fun v w₂ => .ok (.tuple #[v, tmps.getD a undef]) w₂ := by
  simp only [results, h]
  simp [Sem.run_bind, Result.andThen]

/-- a moment's value -/
abbrev mom (y mo d wd h mi : Int) : Value := .agg #[.int .i64 y, .int .i64 mo, .int .i64 d, .int .i64 wd, .int .i64 h, .int .i64 mi]
/-- its cells -/
abbrev momC (y mo d wd h mi : Int) : Array Value := #[.int .i64 y, .int .i64 mo, .int .i64 d, .int .i64 wd, .int .i64 h, .int .i64 mi]
/-- so a tick's moment is told -/
def Told (t : Int) (w : World) (e : Ending) (w' : World) : Prop := ∃ y mo d wd h mi, e = .returned (.tuple #[mom y mo d wd h mi, .int .i64 0]) ∧ IsM t y mo d wd h mi ∧ Below w.heap.size w w'

def dayAt (b : Nat) (w : World) : Nat := match w.cell? ⟨b, 2, none⟩ with
  | some (.int _ d) => d.toNat
  | _ => 0

end Go.Proofs.YtcodjknhnhdkfaaGreatDoor.Ca
