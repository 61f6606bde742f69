
/- plain mathematics of named ticks: days, hours and minutes; 400 years; how many -/
import Derived.Test.YtkkanggkbbmfnaaGreatDoorCnT
namespace Go.Proofs.YtkkanggkbbmfnaaGreatDoor.Fi
open Go.RowKit Go.Lib Go.Proofs.YtkkanggkbbmfnaaGreatDoor.Cn
set_option linter.unusedVariables false

/-- are month and day named -/
def dayB (e : Ex) (mo d wd : Int) : Bool := hb e.d mo && (if (e.x || e.y) = true then hb e.c d && hb e.e wd else hb e.c d || hb e.e wd)
theorem names_day (e : Ex) (mo d wd h mi : Int) : namesB e mo d wd h mi = (hb e.a mi && (hb e.b h && dayB e mo d wd)) := rfl
/-- a tick is named -/
def nm (e : Ex) (t : Int) : Prop := ∃ y mo d wd h mi, Ca.IsM t y mo d wd h mi ∧ namesB e mo d wd h mi = true
/-- a day is named, by its first tick -/
def dn (e : Ex) (t : Int) : Prop := ∃ y mo d wd, Ca.IsM t y mo d wd 0 0 ∧ dayB e mo d wd = true
theorem isM_nonneg {t y mo d wd h mi : Int} (i : Ca.IsM t y mo d wd h mi) : 0 ≤ t := by
  have h1 := i.day; have h2 := Ca.ah_ge i.y0; have h3 := Ca.mb_nonneg y i.m1 (by have := i.m2; omega); have h4 := i.d1; have h5 := i.y0
  omega
theorem nm_nonneg {e : Ex} {t : Int} (h : nm e t) : 0 ≤ t := by obtain ⟨y, mo, d, wd, h, mi, i, _⟩ := h; exact isM_nonneg i
theorem nm_of {e : Ex} {t y mo d wd h mi : Int} (i : Ca.IsM t y mo d wd h mi) : nm e t ↔ namesB e mo d wd h mi = true := by
  constructor
  · rintro ⟨y', mo', d', wd', h', mi', j, hn⟩
    obtain ⟨rfl, rfl, rfl, rfl, rfl, rfl⟩ := i.same j
    exact hn
  · exact fun hn => ⟨_, _, _, _, _, _, i, hn⟩
theorem dn_of {e : Ex} {t y mo d wd : Int} (i : Ca.IsM t y mo d wd 0 0) : dn e t ↔ dayB e mo d wd = true := by
  constructor
  · rintro ⟨y', mo', d', wd', j, hn⟩
    obtain ⟨rfl, rfl, rfl, rfl, _, _⟩ := i.same j
    exact hn
  · exact fun hn => ⟨_, _, _, _, i, hn⟩
theorem dn_day {e : Ex} {t : Int} (h : dn e t) : 0 ≤ t ∧ t % 1440 = 0 := by
  obtain ⟨y, mo, d, wd, i, _⟩ := h
  have h1 := isM_nonneg i; have h2 := i.h; have h3 := i.mi
  omega
theorem isM_day {t y mo d wd h mi : Int} (i : Ca.IsM t y mo d wd h mi) : Ca.IsM (t - t % 1440) y mo d wd 0 0 := by
  have h1 := i.day; have h2 := i.wd; have e : (t - t % 1440) / 1440 = t / 1440 := by omega
  exact ⟨i.y0, i.m1, i.m2, i.d1, i.d2, by rw [e]; exact h1, by rw [e]; exact h2, by omega, by omega⟩
theorem isM_at {F y mo d wd : Int} (i : Ca.IsM F y mo d wd 0 0) {r : Int} (h0 : 0 ≤ r) (h1 : r < 1440) : Ca.IsM (F + r) y mo d wd (r / 60) (r % 60) := by
  have h3 := i.day; have h4 := i.wd; have h5 := i.h; have h6 := i.mi
  have e : (F + r) / 1440 = F / 1440 := by omega
  exact ⟨i.y0, i.m1, i.m2, i.d1, i.d2, by rw [e]; exact h3, by rw [e]; exact h4, by omega, by omega⟩
theorem nm_split {e : Ex} {t : Int} : nm e t ↔ dn e (t - t % 1440) ∧ hb e.b (t % 1440 / 60) = true ∧ hb e.a (t % 60) = true := by
  constructor
  · rintro ⟨y, mo, d, wd, h, mi, i, hn⟩
    rw [names_day, Bool.and_eq_true, Bool.and_eq_true] at hn
    refine ⟨⟨_, _, _, _, isM_day i, hn.2.2⟩, ?_, ?_⟩
    · rw [← i.h]; exact hn.2.1
    · rw [← i.mi]; exact hn.1
  · rintro ⟨⟨y, mo, d, wd, i, hd⟩, hh, hm⟩
    have j := isM_at i (r := t % 1440) (by omega) (by omega)
    rw [show t - t % 1440 + t % 1440 = t by omega, show t % 1440 % 60 = t % 60 by omega] at j
    refine ⟨_, _, _, _, _, _, j, ?_⟩
    rw [names_day, hh, hm, hd]; rfl
/-- n days on: of the same month, or the next one's first day -/
theorem isM_skip {F y mo d wd : Int} (i : Ca.IsM F y mo d wd 0 0) {n : Int} (h1 : 1 ≤ n) (h2 : d + n ≤ Ca.dm y mo + 1) :
    (d + n ≤ Ca.dm y mo → Ca.IsM (F + 1440 * n) y mo (d + n) ((wd + n) % 7) 0 0) ∧
    (¬ d + n ≤ Ca.dm y mo → mo < 12 → Ca.IsM (F + 1440 * n) y (mo + 1) 1 ((wd + n) % 7) 0 0) ∧
    (¬ d + n ≤ Ca.dm y mo → ¬ mo < 12 → Ca.IsM (F + 1440 * n) (y + 1) 1 1 ((wd + n) % 7) 0 0) := by
  have k1 := i.day; have k2 := i.wd; have k3 := i.h; have k4 := i.mi; have k5 := i.d1; have k6 := i.m1; have k7 := i.m2; have k8 := i.y0
  have e : (F + 1440 * n) / 1440 = F / 1440 + n := by omega
  have hw : (wd + n) % 7 = (F / 1440 + n + 6) % 7 := by omega
  have s := Ca.mb_succ (y := y) i.m1 i.m2
  refine ⟨fun h => ⟨i.y0, i.m1, i.m2, by omega, h, by rw [e]; omega, by rw [e]; exact hw, by omega, by omega⟩, fun h h12 => ?_, fun h h12 => ?_⟩
  · have p := Ca.dm_pos (y := y) (m := mo + 1) (by omega) (by omega)
    exact ⟨i.y0, by omega, by omega, by omega, by omega, by rw [e, s]; omega, by rw [e]; exact hw, by omega, by omega⟩
  · obtain rfl : mo = 12 := by omega
    rw [show (12 : Int) + 1 = 13 by rfl, Ca.mb_year] at s
    have a := Ca.ah_succ i.y0
    have p := Ca.dm_pos (y := y + 1) (m := 1) (by omega) (by omega)
    have b := Ca.mb_one (y + 1)
    exact ⟨by omega, by omega, by omega, by omega, by omega, by rw [e, a, b]; omega, by rw [e]; exact hw, by omega, by omega⟩
/-- the days of a month that isn't named -/
theorem dn_month {e : Ex} {F y mo d wd : Int} (i : Ca.IsM F y mo d wd 0 0) (hm : hb e.d mo = false) {n u : Int} (h2 : d + n ≤ Ca.dm y mo + 1) (h3 : F ≤ u) (h4 : u < F + 1440 * n) : ¬ dn e u := by
  intro hd
  have hu := dn_day hd
  have hF : F % 1440 = 0 := by have := i.h; have := i.mi; omega
  obtain ⟨k, hk⟩ : ∃ k, u = F + 1440 * k := ⟨(u - F) / 1440, by omega⟩
  subst hk
  by_cases h0 : k = 0
  · subst h0
    rw [show F + 1440 * 0 = F by omega, dn_of i] at hd
    unfold dayB at hd; rw [hm] at hd; cases hd
  · have j := (isM_skip i (n := k) (by omega) (by omega)).1 (by omega)
    rw [dn_of j] at hd
    unfold dayB at hd; rw [hm] at hd; cases hd
/-- 400 years earlier -/
theorem isM_back {t y mo d wd h mi : Int} (i : Ca.IsM (t + 210379680) y mo d wd h mi) (h0 : 0 ≤ t) : Ca.IsM t (y - 400) mo d wd h mi := by
  have h1 := i.day; have h2 := i.wd; have h3 := i.h; have h4 := i.mi; have hy := i.year
  have y0 : 2400 ≤ y := by
    by_cases hl : y < 2400
    · exfalso
      have a := Ca.ah_mono (x := y + 1) (y := 2400) (by have := i.y0; omega) (by omega)
      have b : Ca.ah 2400 = 146097 := by decide
      omega
    · omega
  have e := Ca.lp_400 (y := y - 400) (by omega)
  rw [show y - 400 + 400 = y by omega] at e
  have e1 : Ca.dm (y - 400) mo = Ca.dm y mo := by unfold Ca.dm; rw [e]
  have e2 : Ca.mb (y - 400) mo = Ca.mb y mo := by unfold Ca.mb; rw [e]
  have e3 := Ca.ah_400 (y := y - 400)
  rw [show y - 400 + 400 = y by omega] at e3
  exact ⟨by omega, i.m1, i.m2, i.d1, by rw [e1]; exact i.d2, by omega, by omega, by omega, by omega⟩
theorem nm_era {e : Ex} {t : Int} (h0 : 0 ≤ t) : nm e (t + 210379680) ↔ nm e t := by
  constructor
  · rintro ⟨y, mo, d, wd, h, mi, i, hn⟩; exact ⟨_, _, _, _, _, _, isM_back i h0, hn⟩
  · rintro ⟨y, mo, d, wd, h, mi, i, hn⟩; exact ⟨_, _, _, _, _, _, i.era, hn⟩
theorem dn_era {e : Ex} {t : Int} (h0 : 0 ≤ t) : dn e (t + 210379680) ↔ dn e t := by
  constructor
  · rintro ⟨y, mo, d, wd, i, hn⟩; exact ⟨_, _, _, _, isM_back i h0, hn⟩
  · rintro ⟨y, mo, d, wd, i, hn⟩; exact ⟨_, _, _, _, i.era, hn⟩
/-- none in 400 years: never -/
theorem never {p : Int → Prop} (hp : ∀ t, 0 ≤ t → p (t + 210379680) → p t) {a : Int} (h0 : 0 ≤ a) (hw : ∀ u, a ≤ u → u < a + 210379680 → ¬ p u) : ∀ u, a ≤ u → ¬ p u := by
  have go : ∀ (k : Nat) (u : Int), a ≤ u → (u - a).toNat ≤ k → ¬ p u := by
    intro k
    induction k with
    | zero => exact fun u h1 h2 => hw u h1 (by omega)
    | succ k ih =>
      intro u h1 h2 hu
      by_cases hlt : u < a + 210379680
      · exact hw u h1 hlt hu
      · exact ih (u - 210379680) (by omega) (by omega) (hp _ (by omega) (by rw [show u - 210379680 + 210379680 = u by omega]; exact hu))
  exact fun u hu => go _ u hu (Nat.le_refl _)
theorem at_nm {e : Ex} {t : Int} {b : Bool} (h : AtIs e t b) : b = true ↔ nm e t ∧ t ≤ 1099511627776 := by
  rcases h with ⟨h1, rfl⟩ | ⟨h1, y, mo, d, wd, hh, mi, i, rfl⟩
  · constructor
    · intro h; cases h
    · rintro ⟨h2, h3⟩; have := nm_nonneg h2; omega
  · rw [nm_of i]; exact ⟨fun h => ⟨h, h1.2⟩, fun h => h.1⟩

/-- the bits that count -/
def hM (e : Ex) : Nat := e.b &&& 16777215
def mM (e : Ex) : Nat := e.a &&& 1152921504606846975
theorem hM_bit (e : Ex) (x : Nat) : (hM e).testBit x = (e.b.testBit x && decide (x < 24)) := by
  unfold hM
  rw [Nat.testBit_and, show (16777215 : Nat) = 2 ^ 24 - 1 by rfl, Nat.testBit_two_pow_sub_one]
theorem mM_bit (e : Ex) (x : Nat) : (mM e).testBit x = (e.a.testBit x && decide (x < 60)) := by
  unfold mM
  rw [Nat.testBit_and, show (1152921504606846975 : Nat) = 2 ^ 60 - 1 by rfl, Nat.testBit_two_pow_sub_one]
theorem hM_lt (e : Ex) : hM e < 18446744073709551616 := Nat.lt_of_le_of_lt Nat.and_le_right (by decide)
theorem mM_lt (e : Ex) : mM e < 18446744073709551616 := Nat.lt_of_le_of_lt Nat.and_le_right (by decide)
/-- the least bit; 64 of none -/
def lst (n : Nat) : Nat := if n = 0 then 64 else ctz 64 n
theorem lst_le {n : Nat} (h : n < 18446744073709551616) : lst n ≤ 64 := by
  unfold lst; split
  · exact Nat.le_refl _
  · rename_i h0; exact Nat.le_of_lt (ctz_spec h0 h).1
/-- an hour and a minute are named on named days -/
def live (e : Ex) : Prop := hM e ≠ 0 ∧ mM e ≠ 0
theorem hb_least {n m : Nat} (hn : n < 18446744073709551616) (hm : m < 18446744073709551616) (hsub : ∀ x, m.testBit x = true → n.testBit x = true) : hb n (lst m : Nat) = decide (m ≠ 0) := by
  unfold lst hb
  by_cases h0 : m = 0
  · rw [if_pos h0, Int.toNat_natCast]
    have : n.testBit 64 = false := Nat.testBit_lt_two_pow (by simpa using hn)
    rw [this]; simp [h0]
  · rw [if_neg h0, Int.toNat_natCast, hsub _ (ctz_spec h0 hm).2.1]; simp [h0]
theorem names_least {e : Ex} (he : ExOk e) (mo d wd : Int) : namesB e mo d wd (lst (hM e) : Nat) (lst (mM e) : Nat) = true ↔ live e ∧ dayB e mo d wd = true := by
  rw [names_day, hb_least he.a (mM_lt e) (fun x h => by rw [mM_bit, Bool.and_eq_true] at h; exact h.1), hb_least he.b (hM_lt e) (fun x h => by rw [hM_bit, Bool.and_eq_true] at h; exact h.1)]
  unfold live
  simp only [Bool.and_eq_true, decide_eq_true_eq]
  exact ⟨fun h => ⟨⟨h.2.1, h.1⟩, h.2.2⟩, fun h => ⟨h.1.2, h.1.1, h.2⟩⟩
/-- a day whose ticks may be named -/
def dl (e : Ex) (t : Int) : Prop := live e ∧ dn e t
theorem hb_hour {e : Ex} {x : Int} (h0 : 0 ≤ x) (h1 : x < 24) : hb e.b x = (hM e).testBit x.toNat := by
  unfold hb; rw [hM_bit, decide_eq_true h0, decide_eq_true (show x.toNat < 24 by omega)]; simp
theorem hb_min {e : Ex} {x : Int} (h0 : 0 ≤ x) (h1 : x < 60) : hb e.a x = (mM e).testBit x.toNat := by
  unfold hb; rw [mM_bit, decide_eq_true h0, decide_eq_true (show x.toNat < 60 by omega)]; simp
/-- a tick of a day whose hour and minute are named -/
def tn (e : Ex) (F t : Int) : Prop := F ≤ t ∧ t < F + 1440 ∧ (hM e).testBit ((t - F) / 60).toNat = true ∧ (mM e).testBit ((t - F) % 60).toNat = true
theorem nm_tn {e : Ex} {F t : Int} (hF : dn e F) (h1 : F ≤ t) (h2 : t < F + 1440) : nm e t ↔ tn e F t := by
  have h3 := dn_day hF
  have e1 : t - t % 1440 = F := by omega
  rw [nm_split, e1, hb_hour (by omega) (by omega), hb_min (by omega) (by omega), show t % 1440 / 60 = (t - F) / 60 by omega, show t % 60 = (t - F) % 60 by omega]
  exact ⟨fun h => ⟨h1, h2, h.2.1, h.2.2⟩, fun h => ⟨hF, h.2.2.1, h.2.2.2⟩⟩
theorem nm_dl {e : Ex} {t : Int} (h : nm e t) : dl e (t - t % 1440) := by
  have h1 := nm_split.1 h
  refine ⟨⟨fun h0 => ?_, fun h0 => ?_⟩, h1.1⟩
  · have := h1.2.1
    rw [hb_hour (by omega) (by omega), h0] at this
    simp at this
  · have := h1.2.2
    rw [hb_min (by omega) (by omega), h0] at this
    simp at this
theorem dl_era {e : Ex} {t : Int} (h0 : 0 ≤ t) : dl e (t + 210379680) → dl e t := fun h => ⟨h.1, (dn_era h0).1 h.2⟩
/-- the next one -/
def nx (e : Ex) (s t : Int) : Prop := s < t ∧ nm e t ∧ ∀ u, s < u → u < t → ¬ nm e u
theorem nx_same {e : Ex} {s t u : Int} (h : nx e s t) (k : nx e s u) : t = u := by
  rcases Int.lt_trichotomy t u with hl | hl | hl
  · exact absurd h.2.1 (k.2.2 t h.1 hl)
  · exact hl
  · exact absurd k.2.1 (h.2.2 u k.1 hl)

open Classical in
/-- how many there are above a, up to a + k -/
noncomputable def cn (e : Ex) (a : Int) : Nat → Nat
  | 0 => 0
  | k + 1 => cn e a k + if nm e (a + (k + 1 : Nat)) then 1 else 0
/-- how many there are above a, up to b -/
noncomputable def cnt (e : Ex) (a b : Int) : Nat := cn e a (b - a).toNat
theorem cn_add (e : Ex) (a : Int) (j : Nat) : ∀ k : Nat, cn e a (j + k) = cn e a j + cn e (a + j) k
  | 0 => rfl
  | k + 1 => by
    rw [← Nat.add_assoc, cn, cn_add e a j k, cn, Nat.add_assoc]
    rw [show a + ((j + k + 1 : Nat) : Int) = a + j + ((k + 1 : Nat) : Int) by omega]
theorem cn_none (e : Ex) (a : Int) : ∀ k : Nat, (∀ u, a < u → u ≤ a + k → ¬ nm e u) → cn e a k = 0
  | 0, _ => rfl
  | k + 1, h => by
    rw [cn, cn_none e a k (fun u h1 h2 => h u h1 (by omega)), if_neg (h _ (by omega) (by omega))]
theorem cn_le (e : Ex) (a : Int) : ∀ k : Nat, cn e a k ≤ k
  | 0 => Nat.le_refl _
  | k + 1 => by have := cn_le e a k; rw [cn]; split <;> omega
theorem cnt_self (e : Ex) {a b : Int} (h : b ≤ a) : cnt e a b = 0 := by unfold cnt; rw [show (b - a).toNat = 0 by omega]; rfl
theorem cnt_add (e : Ex) {a b c : Int} (h1 : a ≤ b) (h2 : b ≤ c) : cnt e a c = cnt e a b + cnt e b c := by
  unfold cnt
  rw [show (c - a).toNat = (b - a).toNat + (c - b).toNat by omega, cn_add, show a + ((b - a).toNat : Int) = b by omega]
theorem cnt_none (e : Ex) {a b : Int} (h : ∀ u, a < u → u ≤ b → ¬ nm e u) : cnt e a b = 0 := by
  unfold cnt
  exact cn_none e a _ fun u h1 h2 => h u h1 (by omega)
theorem cnt_next (e : Ex) {a s t : Int} (h : nx e s t) (h1 : a ≤ s) : cnt e a t = cnt e a s + 1 := by
  rw [cnt_add e h1 (Int.le_of_lt h.1), cnt_add e (a := s) (b := t - 1) (c := t) (by have := h.1; omega) (by omega), cnt_none e (a := s) (b := t - 1) (fun u h2 h3 => h.2.2 u h2 (by omega))]
  have : cnt e (t - 1) t = 1 := by
    unfold cnt
    rw [show (t - (t - 1)).toNat = 0 + 1 by omega, cn, cn, if_pos (by rw [show t - 1 + ((0 + 1 : Nat) : Int) = t by omega]; exact h.2.1)]
  omega
theorem cnt_mono (e : Ex) {a b c : Int} (h2 : b ≤ c) : cnt e a b ≤ cnt e a c := by
  by_cases h1 : a ≤ b
  · rw [cnt_add e h1 h2]; omega
  · rw [cnt_self e (by omega)]; omega
theorem cnt_le (e : Ex) (a b : Int) : cnt e a b ≤ (b - a).toNat := cn_le e a _
theorem cn_era (e : Ex) (a : Int) (h0 : -1 ≤ a) : ∀ k : Nat, cn e (a + 210379680) k = cn e a k
  | 0 => rfl
  | k + 1 => by
    rw [cn, cn, cn_era e a h0 k]
    have := nm_era (e := e) (t := a + (k + 1 : Nat)) (by omega)
    rw [show a + ((k + 1 : Nat) : Int) + 210379680 = a + 210379680 + ((k + 1 : Nat) : Int) by omega] at this
    by_cases hx : nm e (a + (k + 1 : Nat))
    · rw [if_pos (this.2 hx), if_pos hx]
    · rw [if_neg (fun h => hx (this.1 h)), if_neg hx]
theorem cnt_era (e : Ex) {a b : Int} (h0 : -1 ≤ a) : cnt e (a + 210379680) (b + 210379680) = cnt e a b := by
  unfold cnt
  rw [show (b + 210379680 - (a + 210379680)).toNat = (b - a).toNat by omega, cn_era e a h0]
theorem cnt_turns (e : Ex) {a : Int} (h0 : -1 ≤ a) : ∀ k : Nat, cnt e a (a + 210379680 * k) = k * cnt e a (a + 210379680)
  | 0 => by rw [cnt_self e (by omega)]; omega
  | k + 1 => by
    have h := cnt_era e (a := a + 210379680 * k) (b := a + 210379680 * k + 210379680) (by omega)
    have ih := cnt_turns e (a := a) h0 k
    rw [cnt_add e (a := a) (b := a + 210379680) (c := a + 210379680 * ((k + 1 : Nat) : Int)) (by omega) (by omega)]
    have h2 := cnt_era e (a := a) (b := a + 210379680 * k) h0
    rw [show a + 210379680 * ((k + 1 : Nat) : Int) = a + 210379680 * k + 210379680 by omega, h2, ih, Nat.succ_mul]
    omega
end Go.Proofs.YtkkanggkbbmfnaaGreatDoor.Fi
