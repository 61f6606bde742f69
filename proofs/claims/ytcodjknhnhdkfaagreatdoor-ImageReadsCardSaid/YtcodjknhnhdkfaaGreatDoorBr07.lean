/- plain mathematics of heaps: a tree in a row, settled; keys and their places -/
import Derived.Test.YtcodjknhnhdkfaaGreatDoorRows
import Derived.Sort.Statements
import Derived.WalkKit
import Derived.Maps.OwnSet
import Derived.Maps.Views
import Derived.WideKeyEntry
import Derived.Sort.EncStr
import Derived.Sort.Walk0
import Derived.Lib.BufferMore
import Derived.Laws.Rows
namespace Go.Proofs.YtcodjknhnhdkfaaGreatDoor.Hp
open Go.Sort
set_option linter.unusedVariables false
set_option linter.unusedSectionVars false
section
variable {α : Type} [Inhabited α]
/-- the one at a place -/
def el (l : List α) (i : Nat) : α := l.getD i default
theorem el_of {l : List α} {i : Nat} {x : α} (h : l[i]? = some x) : el l i = x := by unfold el; rw [List.getD_eq_getElem?_getD, h]; rfl
theorem el_get {l : List α} {i : Nat} (h : i < l.length) : l[i]? = some (el l i) := by
  unfold el; rw [List.getD_eq_getElem?_getD, List.getElem?_eq_getElem h]; rfl
theorem el_eq {l : List α} {i : Nat} (h : i < l.length) : el l i = l[i] := el_of (List.getElem?_eq_getElem h)
theorem el_mem {l : List α} {i : Nat} (h : i < l.length) : el l i ∈ l := by rw [el_eq h]; exact List.getElem_mem h
theorem mem_el {l : List α} {x : α} (h : x ∈ l) : ∃ i, i < l.length ∧ el l i = x := by
  obtain ⟨i, hi, e⟩ := List.getElem_of_mem h
  exact ⟨i, hi, by rw [el_eq hi, e]⟩
theorem el_set (l : List α) {i : Nat} (x : α) (h : i < l.length) : el (l.set i x) i = x := by
  refine el_of ?_
  rw [List.getElem?_set_self h]
theorem el_set_ne (l : List α) {i j : Nat} (x : α) (h : i ≠ j) : el (l.set i x) j = el l j := by
  unfold el; rw [List.getD_eq_getElem?_getD, List.getD_eq_getElem?_getD, List.getElem?_set_ne h]
theorem el_app (l : List α) (x : α) {j : Nat} (h : j < l.length) : el (l ++ [x]) j = el l j := by
  unfold el; rw [List.getD_eq_getElem?_getD, List.getD_eq_getElem?_getD, List.getElem?_append_left h]
theorem el_app_last (l : List α) (x : α) : el (l ++ [x]) l.length = x := el_of (by simp)
theorem el_take (l : List α) {n j : Nat} (h : j < n) : el (l.take n) j = el l j := by
  unfold el; rw [List.getD_eq_getElem?_getD, List.getD_eq_getElem?_getD, List.getElem?_take_of_lt h]
/-- two places changed -/
def sw (l : List α) (i j : Nat) : List α := (l.set i (el l j)).set j (el l i)
theorem len_sw (l : List α) (i j : Nat) : (sw l i j).length = l.length := by simp [sw]
theorem sw_r (l : List α) {i j : Nat} (hj : j < l.length) : el (sw l i j) j = el l i := by
  unfold sw; rw [el_set _ _ (by simpa using hj)]
theorem sw_l (l : List α) {i j : Nat} (hi : i < l.length) (hj : j < l.length) : el (sw l i j) i = el l j := by
  by_cases h : i = j
  · subst h; exact sw_r l hj
  · unfold sw; rw [el_set_ne _ _ (fun e => h e.symm), el_set _ _ hi]
theorem sw_o (l : List α) {i j k : Nat} (hi : k ≠ i) (hj : k ≠ j) : el (sw l i j) k = el l k := by
  unfold sw; rw [el_set_ne _ _ (fun e => hj e.symm), el_set_ne _ _ (fun e => hi e.symm)]
theorem sw_perm (l : List α) {i j : Nat} (hi : i < l.length) (hj : j < l.length) : (sw l i j).Perm l := by
  unfold sw
  rw [el_eq hi, el_eq hj]
  exact List.set_set_perm hi hj
/-- the place above -/
def par (i : Nat) : Nat := (i - 1) / 2
theorem par_lt {i : Nat} (h : 0 < i) : par i < i := by unfold par; omega
theorem par_kid {i j : Nat} (h : 0 < j) : par j = i ↔ j = 2 * i + 1 ∨ j = 2 * i + 2 := by unfold par; omega
/-- all in order -/
def Hpd (lt : α → α → Bool) (l : List α) : Prop := ∀ j, 0 < j → j < l.length → lt (el l j) (el l (par j)) = false
/-- all but the one at a place in order -/
def Okx (lt : α → α → Bool) (i : Nat) (l : List α) : Prop :=
  (∀ j, 0 < j → j < l.length → j ≠ i → par j ≠ i → lt (el l j) (el l (par j)) = false) ∧
  (∀ j, 0 < j → j < l.length → par j = i → 0 < i → lt (el l j) (el l (par i)) = false)
/-- .. and that one isn't ahead of the one above -/
def Dn (lt : α → α → Bool) (i : Nat) (l : List α) : Prop := Okx lt i l ∧ (0 < i → lt (el l i) (el l (par i)) = false)
variable {lt : α → α → Bool}
theorem asym (S : SWO lt) {x y : α} (h : lt x y = true) : lt y x = false := by
  cases e : lt y x with
  | false => rfl
  | true => have := S.trans x y x h e; rw [S.irrefl] at this; cases this
theorem Okx.up (S : SWO lt) {i : Nat} {l : List α} (h : Okx lt i l) (h0 : 0 < i) (hi : i < l.length) (hl : lt (el l i) (el l (par i)) = true) : Okx lt (par i) (sw l i (par i)) := by
  have hp := par_lt h0
  have hpl : par i < l.length := by omega
  refine ⟨fun j hj hjl hne hpne => ?_, fun j hj hjl hpj hp0 => ?_⟩
  · rw [len_sw] at hjl
    have hji : j ≠ i := fun e => hpne (by rw [e])
    rw [sw_o l hji hne]
    by_cases e : par j = i
    · rw [e, sw_l l hi hpl]
      exact h.2 j hj hjl e h0
    · rw [sw_o l e hpne]
      exact h.1 j hj hjl hji e
  · rw [len_sw] at hjl
    have hpp := par_lt hp0
    rw [sw_o l (show par (par i) ≠ i by omega) (show par (par i) ≠ par i by omega)]
    have h1 : lt (el l (par i)) (el l (par (par i))) = false := h.1 (par i) hp0 hpl (by omega) (by omega)
    by_cases e : j = i
    · subst e
      rw [sw_l l hi hpl]
      exact h1
    · have hjp : j ≠ par i := fun e2 => by rw [← e2] at hpj; have := par_lt hj; omega
      rw [sw_o l e hjp]
      have h2 := h.1 j hj hjl e (by omega)
      rw [hpj] at h2
      exact S.ntrans _ _ _ h2 h1
theorem Okx.dn {i : Nat} {l : List α} (h : Okx lt i l) (hs : i = 0 ∨ lt (el l i) (el l (par i)) = false) : Dn lt i l := ⟨h, fun h0 => hs.resolve_left (by omega)⟩
/-- the one ahead of the other, of those below a place -/
def kid (lt : α → α → Bool) (l : List α) (i : Nat) : Nat := if 2 * i + 2 < l.length ∧ lt (el l (2 * i + 2)) (el l (2 * i + 1)) = true then 2 * i + 2 else 2 * i + 1
theorem kid_par (l : List α) (i : Nat) : par (kid lt l i) = i := by unfold kid par; split <;> omega
theorem kid_gt (l : List α) (i : Nat) : i < kid lt l i := by unfold kid; split <;> omega
theorem kid_le (l : List α) (i : Nat) : kid lt l i ≤ 2 * i + 2 := by unfold kid; split <;> omega
theorem kid_best (S : SWO lt) (l : List α) {i c : Nat} (hc0 : 0 < c) (hc : c < l.length) (hp : par c = i) : kid lt l i < l.length ∧ lt (el l c) (el l (kid lt l i)) = false := by
  rcases (par_kid hc0).1 hp with rfl | rfl
  · unfold kid
    split
    · rename_i h
      exact ⟨h.1, asym S h.2⟩
    · exact ⟨hc, S.irrefl _⟩
  · unfold kid
    split
    · rename_i h
      exact ⟨h.1, S.irrefl _⟩
    · rename_i h
      refine ⟨by omega, ?_⟩
      cases e : lt (el l (2 * i + 2)) (el l (2 * i + 1)) with
      | false => rfl
      | true => exact absurd ⟨hc, e⟩ h
theorem Dn.down (S : SWO lt) {i : Nat} {l : List α} (h : Dn lt i l) (hj : kid lt l i < l.length) (hl : lt (el l (kid lt l i)) (el l i) = true) : Dn lt (kid lt l i) (sw l i (kid lt l i)) := by
  have hg : i < kid lt l i := kid_gt l i
  have hb := fun (c : Nat) (h0 : 0 < c) (hc : c < l.length) (hp : par c = i) => (kid_best S l h0 hc hp).2
  have hpj : par (kid lt l i) = i := kid_par l i
  generalize hk : kid lt l i = k at *
  have hi : i < l.length := by omega
  refine ⟨⟨fun j h0 hjl hne hpne => ?_, fun j h0 hjl hpj2 hk0 => ?_⟩, fun _ => ?_⟩
  · rw [len_sw] at hjl
    by_cases e : par j = i
    · by_cases e2 : j = i
      · subst e2; have := par_lt h0; omega
      · rw [sw_o l e2 hne, e, sw_l l hi hj]
        exact hb j h0 hjl e
    · by_cases e2 : j = i
      · subst e2
        rw [sw_l l hi hj, sw_o l (by have := par_lt h0; omega) hpne]
        have := h.1.2 k (by omega) hj hpj h0
        exact this
      · rw [sw_o l e2 hne, sw_o l e hpne]
        exact h.1.1 j h0 hjl e2 e
  · rw [len_sw] at hjl
    have hjk : j ≠ k := fun e => by rw [e] at hpj2; have := par_lt hk0; omega
    have hji : j ≠ i := fun e => by rw [e] at hpj2 h0; have := par_lt h0; omega
    rw [hpj, sw_o l hji hjk, sw_l l hi hj]
    have := h.1.1 j h0 hjl hji (by omega)
    rw [hpj2] at this
    exact this
  · rw [hpj, sw_r l hj, sw_l l hi hj]
    exact asym S hl
theorem Dn.stop (S : SWO lt) {i : Nat} {l : List α} (h : Dn lt i l) (hs : l.length ≤ kid lt l i ∨ lt (el l (kid lt l i)) (el l i) = false) : Hpd lt l := fun j h0 hjl => by
  by_cases e : j = i
  · subst e; exact h.2 h0
  · by_cases e2 : par j = i
    · obtain ⟨h1, h2⟩ := kid_best S l h0 hjl e2
      rcases hs with hs | hs
      · omega
      · rw [e2]; exact S.ntrans _ _ _ h2 hs
    · exact h.1.1 j h0 hjl e e2
theorem Hpd.okx (S : SWO lt) {l : List α} (h : Hpd lt l) {i : Nat} (hi : i < l.length) (x : α) : Okx lt i (l.set i x) := by
  refine ⟨fun j h0 hjl hne hp => ?_, fun j h0 hjl hp hi0 => ?_⟩
  · rw [List.length_set] at hjl
    rw [el_set_ne _ _ (fun e => hne e.symm), el_set_ne _ _ (fun e => hp e.symm)]
    exact h j h0 hjl
  · rw [List.length_set] at hjl
    have h1 := par_lt hi0
    have h2 := par_lt h0
    rw [el_set_ne _ _ (show i ≠ j by omega), el_set_ne _ _ (show i ≠ par i by omega)]
    have h3 := h j h0 hjl
    rw [hp] at h3
    exact S.ntrans _ _ _ h3 (h i hi0 (by omega))
theorem Hpd.okx_app {l : List α} (h : Hpd lt l) (x : α) : Okx lt l.length (l ++ [x]) := by
  refine ⟨fun j h0 hjl hne hp => ?_, fun j h0 hjl hp hi0 => ?_⟩
  · rw [List.length_append, List.length_singleton] at hjl
    have := par_lt h0
    rw [el_app _ _ (by omega), el_app _ _ (by omega)]
    exact h j h0 (by omega)
  · rw [List.length_append, List.length_singleton] at hjl
    have := par_lt h0
    omega
theorem Hpd.take {l : List α} (h : Hpd lt l) (n : Nat) : Hpd lt (l.take n) := fun j h0 hjl => by
  rw [List.length_take] at hjl
  have := par_lt h0
  rw [el_take _ (by omega), el_take _ (by omega)]
  exact h j h0 (by omega)
/-- the one at a place gone, the last one in its place -/
theorem sw_take (l : List α) {i : Nat} (hi : i < l.length - 1) : (sw l i (l.length - 1)).take (l.length - 1) = (l.take (l.length - 1)).set i (el l (l.length - 1)) := by
  refine List.ext_getElem? fun j => ?_
  by_cases hj : j < l.length - 1
  · rw [List.getElem?_take_of_lt hj]
    have h1 : (sw l i (l.length - 1))[j]? = some (el (sw l i (l.length - 1)) j) := el_get (by rw [len_sw]; omega)
    have h2 : ((l.take (l.length - 1)).set i (el l (l.length - 1)))[j]? = some (el ((l.take (l.length - 1)).set i (el l (l.length - 1))) j) := el_get (by simp; omega)
    rw [h1, h2]
    by_cases e : j = i
    · subst e
      rw [sw_l l (by omega) (by omega), el_set _ _ (by simp; omega)]
    · rw [sw_o l e (by omega), el_set_ne _ _ (fun e2 => e e2.symm), el_take _ hj]
  · rw [List.getElem?_eq_none (by simp; omega), List.getElem?_eq_none (by simp; omega)]
theorem sw_self (l : List α) {i : Nat} (hi : i < l.length) : sw l i i = l := by
  unfold sw
  rw [el_eq hi]; simp
theorem Hpd.drop (S : SWO lt) {l : List α} (h : Hpd lt l) {i : Nat} (hi : i < l.length - 1) : Okx lt i ((sw l i (l.length - 1)).take (l.length - 1)) := by
  rw [sw_take l hi]
  exact (h.take _).okx S (by simp; omega) _
theorem drop_perm (l : List α) {i : Nat} (hi : i < l.length) : ((sw l i (l.length - 1)).take (l.length - 1) ++ [el l i]).Perm l := by
  have h1 := sw_perm l hi (show l.length - 1 < l.length by omega)
  have h2 : (sw l i (l.length - 1)).drop (l.length - 1) = [el l i] := by
    refine List.ext_getElem? fun j => ?_
    cases j with
    | zero =>
      rw [List.getElem?_drop, Nat.add_zero, el_get (by rw [len_sw]; omega), sw_r l (by omega)]; rfl
    | succ j =>
      rw [List.getElem?_eq_none (by simp [len_sw]; omega), List.getElem?_eq_none (by simp)]
  rw [← h2, List.take_append_drop]
  exact h1
/-- the first one is the least one -/
theorem Hpd.least (S : SWO lt) {l : List α} (h : Hpd lt l) : ∀ j, j < l.length → lt (el l j) (el l 0) = false := by
  intro j
  induction j using Nat.strongRecOn with
  | _ j ih =>
    intro hj
    by_cases h0 : j = 0
    · subst h0; exact S.irrefl _
    · exact S.ntrans _ _ _ (h j (by omega) hj) (ih (par j) (par_lt (by omega)) (by have := par_lt (i := j) (by omega); omega))
end
section
variable {K R : Type} [Inhabited K] [Inhabited R] [DecidableEq K]
/-- where each key's item stands -/
def Pl (f : K → Option Nat) (l : List (K × R)) : Prop := ∀ k i, f k = some i ↔ i < l.length ∧ (el l i).1 = k
def upd {V : Type} (f : K → Option V) (k : K) (v : V) : K → Option V := fun x => if x = k then some v else f x
def del {V : Type} (f : K → Option V) (k : K) : K → Option V := fun x => if x = k then none else f x
theorem Pl.key {f : K → Option Nat} {l : List (K × R)} (h : Pl f l) {i : Nat} (hi : i < l.length) : f (el l i).1 = some i := (h _ _).2 ⟨hi, rfl⟩
theorem Pl.inj {f : K → Option Nat} {l : List (K × R)} (h : Pl f l) {i j : Nat} (hi : i < l.length) (hj : j < l.length) (e : (el l i).1 = (el l j).1) : i = j := by
  have h1 := h.key hi
  rw [e, h.key hj] at h1
  exact (Option.some.inj h1).symm
theorem Pl.sw {f : K → Option Nat} {l : List (K × R)} (h : Pl f l) {i j : Nat} (hi : i < l.length) (hj : j < l.length) :
    Pl (upd (upd f (el (sw l i j) i).1 i) (el (sw l i j) j).1 j) (sw l i j) := by
  intro k m
  rw [len_sw, sw_l l hi hj, sw_r l hj]
  unfold upd
  by_cases hk : k = (el l i).1
  · rw [if_pos hk]
    constructor
    · intro e
      obtain rfl := Option.some.inj e
      exact ⟨hj, by rw [sw_r l hj, hk]⟩
    · rintro ⟨h1, h2⟩
      by_cases hmj : m = j
      · rw [hmj]
      · by_cases hmi : m = i
        · subst hmi
          rw [sw_l l hi hj, hk] at h2
          exact absurd (h.inj hj hi h2).symm hmj
        · rw [sw_o l hmi hmj, hk] at h2
          exact absurd (h.inj h1 hi h2) hmi
  · rw [if_neg hk]
    by_cases hk2 : k = (el l j).1
    · rw [if_pos hk2]
      constructor
      · intro e
        obtain rfl := Option.some.inj e
        exact ⟨hi, by rw [sw_l l hi hj, hk2]⟩
      · rintro ⟨h1, h2⟩
        by_cases hmi : m = i
        · rw [hmi]
        · by_cases hmj : m = j
          · subst hmj
            rw [sw_r l hj] at h2
            exact absurd h2.symm hk
          · rw [sw_o l hmi hmj, hk2] at h2
            exact absurd (h.inj h1 hj h2) hmj
    · rw [if_neg hk2, h k m]
      constructor
      · rintro ⟨h1, h2⟩
        refine ⟨h1, ?_⟩
        rw [sw_o l (fun e => by subst e; exact hk h2.symm) (fun e => by subst e; exact hk2 h2.symm)]
        exact h2
      · rintro ⟨h1, h2⟩
        refine ⟨h1, ?_⟩
        by_cases hmi : m = i
        · subst hmi; rw [sw_l l hi hj] at h2; exact absurd h2.symm hk2
        · by_cases hmj : m = j
          · subst hmj; rw [sw_r l hj] at h2; exact absurd h2.symm hk
          · rw [sw_o l hmi hmj] at h2; exact h2
theorem Pl.set {f : K → Option Nat} {l : List (K × R)} (h : Pl f l) {i : Nat} (hi : i < l.length) (r : R) : Pl f (l.set i ((el l i).1, r)) := by
  intro k m
  rw [h k m, List.length_set]
  by_cases e : i = m
  · subst e; rw [el_set _ _ hi]
  · rw [el_set_ne _ _ e]
theorem Pl.app {f : K → Option Nat} {l : List (K × R)} (h : Pl f l) {k : K} (hk : f k = none) (r : R) : Pl (upd f k l.length) (l ++ [(k, r)]) := by
  intro x m
  unfold upd
  rw [List.length_append, List.length_singleton]
  by_cases e : x = k
  · rw [if_pos e]
    constructor
    · intro e2
      obtain rfl := Option.some.inj e2
      exact ⟨by omega, by rw [el_app_last, e]⟩
    · rintro ⟨h1, h2⟩
      by_cases e2 : m = l.length
      · rw [e2]
      · rw [el_app _ _ (by omega), e] at h2
        have := h.key (show m < l.length by omega)
        rw [h2, hk] at this; cases this
  · rw [if_neg e, h x m]
    constructor
    · rintro ⟨h1, h2⟩
      exact ⟨by omega, by rw [el_app _ _ h1]; exact h2⟩
    · rintro ⟨h1, h2⟩
      by_cases e2 : m = l.length
      · rw [e2, el_app_last] at h2; exact absurd h2.symm e
      · rw [el_app _ _ (by omega)] at h2
        exact ⟨by omega, h2⟩
theorem Pl.pop {f : K → Option Nat} {l : List (K × R)} (h : Pl f l) (hl : 0 < l.length) : Pl (del f (el l (l.length - 1)).1) (l.take (l.length - 1)) := by
  intro k m
  unfold del
  rw [List.length_take, Nat.min_eq_left (by omega)]
  by_cases e : k = (el l (l.length - 1)).1
  · rw [if_pos e]
    constructor
    · intro e2; cases e2
    · rintro ⟨h1, h2⟩
      rw [el_take _ h1, e] at h2
      have := h.inj (show m < l.length by omega) (show l.length - 1 < l.length by omega) h2
      omega
  · rw [if_neg e, h k m]
    constructor
    · rintro ⟨h1, h2⟩
      have : m ≠ l.length - 1 := fun e2 => by rw [e2] at h2; exact e h2.symm
      exact ⟨by omega, by rw [el_take _ (by omega)]; exact h2⟩
    · rintro ⟨h1, h2⟩
      rw [el_take _ h1] at h2
      exact ⟨by omega, h2⟩
theorem Pl.nodup {f : K → Option Nat} {l : List (K × R)} (h : Pl f l) : (l.map (·.1)).Nodup := by
  rw [List.nodup_iff_pairwise_ne, List.pairwise_map, List.pairwise_iff_getElem]
  intro i j hi hj hij e
  have := h.inj hi hj (by rw [el_eq hi, el_eq hj]; exact e)
  omega
theorem Pl.none {f : K → Option Nat} {l : List (K × R)} (h : Pl f l) {k : K} (hk : f k = none) : k ∉ l.map (·.1) := by
  intro hm
  obtain ⟨x, hx, rfl⟩ := List.mem_map.1 hm
  obtain ⟨i, hi, rfl⟩ := mem_el hx
  rw [h.key hi] at hk; cases hk
/-- what stays when a key goes -/
def cut (k : K) (l : List (K × R)) : List (K × R) := l.filter fun x => decide (x.1 ≠ k)
theorem cut_not {k : K} {l : List (K × R)} (h : k ∉ l.map (·.1)) : cut k l = l := by
  unfold cut
  refine List.filter_eq_self.2 fun x hx => ?_
  rw [decide_eq_true_eq]
  exact fun e => h (e ▸ List.mem_map_of_mem hx)
theorem cut_perm {k : K} {l m : List (K × R)} (h : l.Perm m) : (cut k l).Perm (cut k m) := h.filter _
theorem mem_cut {k : K} {l : List (K × R)} {x : K × R} : x ∈ cut k l ↔ x ∈ l ∧ x.1 ≠ k := by unfold cut; rw [List.mem_filter, decide_eq_true_eq]
theorem cut_of {k : K} {l m : List (K × R)} {r : R} (h : (m ++ [(k, r)]).Perm l) (hn : (l.map (·.1)).Nodup) : m.Perm (cut k l) := by
  have h1 := cut_perm (k := k) h
  have h2 : ((m ++ [(k, r)]).map (·.1)).Nodup := (h.map _).nodup_iff.2 hn
  rw [List.map_append, List.nodup_append] at h2
  have h3 : k ∉ m.map (·.1) := fun e => h2.2.2 k e k (by simp) rfl
  have h4 : cut k (m ++ [(k, r)]) = m := by
    have : cut k (m ++ [(k, r)]) = cut k m ++ cut k [(k, r)] := List.filter_append _ _
    rw [this, cut_not h3]
    simp [cut]
  rw [h4] at h1
  exact h1
theorem set_cut {l : List (K × R)} {i : Nat} (hi : i < l.length) (hn : (l.map (·.1)).Nodup) (r : R) : (l.set i ((el l i).1, r)).Perm (((el l i).1, r) :: cut (el l i).1 l) := by
  have h1 : l = l.take i ++ el l i :: l.drop (i + 1) := by rw [el_eq hi]; simp
  have h2 : l.set i ((el l i).1, r) = l.take i ++ ((el l i).1, r) :: l.drop (i + 1) := by rw [List.set_eq_take_append_cons_drop, if_pos hi]
  rw [h2]
  refine List.perm_middle.trans (List.Perm.cons _ ?_)
  refine cut_of (r := (el l i).2) ?_ hn
  have h3 : (el l i :: (l.take i ++ l.drop (i + 1))).Perm l := by
    conv => rhs; rw [h1]
    exact List.perm_middle.symm
  exact (List.perm_append_singleton _ _).trans h3
end
end Go.Proofs.YtcodjknhnhdkfaaGreatDoor.Hp
namespace Go.Proofs.YtcodjknhnhdkfaaGreatDoor.Hp
open Go.RowKit Go.Maps Go.WideElems Go.ChangeMaps Go.MapKept
set_option linter.unusedVariables false
set_option linter.unusedSectionVars false

/-- a map's type: its key's, its element's (an integer's), how a key lies -/
structure Kind (P : Program) (t tk te : TypeId) (q : IntKind) {K : Type} (ek : K → Value) (kl : K → Lit) (wk : K → Prop) : Prop where
  map : P.underlying t = some (.map tk te)
  elem : P.underlying te = some (.int q)
  zero : ∀ w, (zeroValue te).run P w = .ok (.int q 0) w
  keyed : Keyed P tk
  key : ∀ k, wk k → keyOf P tk (ek k) = some (kl k)
  inj : ∀ k k', kl k = kl k' → k = k'
def Mp (P : Program) (tk te : TypeId) (q : IntKind) {K : Type} (kl : K → Lit) (wk : K → Prop) (w : World) (b n : Nat) (f : K → Option Int) : Prop :=
  ∃ D : DataW Unit, w.ownsMap P tk (plainElem P te) b n D ∧ Maps.size D = n ∧ ∀ k, wk k → ∀ z, D.atKey (kl k) z = match f k with | some i => .lit (.int q i) | none => z
/-- an entry's stamp -/
def St (w : World) (b : Nat) (v : Value) (st : Nat) : Prop := ∃ (es : Array MapEntry) (clock j : Nat) (e0 : MapEntry), w.heap[b]? = some (.map es clock) ∧ es.toList[j]? = some e0 ∧ e0.key = v ∧ e0.born = st
section
variable {P : Program} {t tk te : TypeId} {q : IntKind} {K : Type} [DecidableEq K] {ek : K → Value} {kl : K → Lit} {wk : K → Prop}
theorem exact {w : World} {b n : Nat} {D : DataW Unit} {k : TypeId} {R : Value → Option (DataW Unit × List MemPlace)} (h : w.ownsMap P k R b n D) : w.ownsMap P k R b (Maps.size D) D := by
  obtain ⟨es, clock, hb, F, hs, rfl⟩ := h
  exact ⟨es, clock, hb, F, by simp [Maps.size, length_sorted], rfl⟩
theorem mp_made (κ : Kind P t tk te q ek kl wk) (w : World) : Mp P tk te q kl wk (w.alloc (.map #[] 0)) w.heap.size 0 (fun _ => none) :=
  ⟨.map [], World.ownsMap_made w _ _ _, rfl, fun _ _ _ => rfl⟩
theorem Mp.congr {w : World} {b n : Nat} {f g : K → Option Int} (h : Mp P tk te q kl wk w b n f) (e : ∀ k, wk k → f k = g k) : Mp P tk te q kl wk w b n g := by
  obtain ⟨D, h1, h2, h3⟩ := h
  exact ⟨D, h1, h2, fun k hk z => by rw [← e k hk]; exact h3 k hk z⟩
theorem Mp.kept {w Y : World} {b n : Nat} {f : K → Option Int} (h : Mp P tk te q kl wk w b n f) (e : Y.heap[b]? = w.heap[b]?) : Mp P tk te q kl wk Y b n f := by
  obtain ⟨D, ⟨es, clock, h1, h2⟩, h3⟩ := h
  exact ⟨D, ⟨es, clock, e.trans h1, h2⟩, h3⟩
theorem Mp.at {w : World} {b n : Nat} {f : K → Option Int} (h : Mp P tk te q kl wk w b n f) : ∃ es clock, w.heap[b]? = some (.map es clock) := by
  obtain ⟨D, ⟨es, clock, h1, _⟩, _⟩ := h
  exact ⟨es, clock, h1⟩
theorem Mp.lt {w : World} {b n : Nat} {f : K → Option Int} (h : Mp P tk te q kl wk w b n f) : b < w.heap.size := by
  obtain ⟨es, c, e⟩ := h.at
  exact (Array.getElem?_eq_some_iff.1 e).1
theorem has_of (κ : Kind P t tk te q ek kl wk) {D : DataW Unit} {f : K → Option Int} {k : K} (h : ∀ z, D.atKey (kl k) z = match f k with | some i => .lit (.int q i) | none => z) : Maps.has D (kl k) = (f k).isSome := by
  cases e : f k with
  | none => rw [e] at h; exact Maps.has_false_of_atKey h
  | some i => rw [e] at h; exact Maps.has_true_of_atKey h
theorem Mp.look (κ : Kind P t tk te q ek kl wk) {w Y : World} {b n : Nat} {f : K → Option Int} (h : Mp P tk te q kl wk w b n f) (e : Y.heap[b]? = w.heap[b]?) {k : K} (hk : wk k) :
    (Instr.lookup t (.map (some b)) (ek k) true).run P Y = .ok (.tuple #[.int q ((f k).getD 0), .bool (f k).isSome]) Y := by
  obtain ⟨D, hm, hn, hD⟩ := h.kept e
  have hw0 : (Lit.int q 0).wf = true := by cases q <;> decide
  obtain ⟨v, ps, hr, hv⟩ := hm.look_ok κ.keyed κ.map (κ.zero Y) (plainElem_int κ.elem hw0) (κ.key k hk)
  rw [has_of κ (hD k hk)] at hr
  rw [hD k hk] at hv
  obtain ⟨c, rfl, hc, _⟩ := plainElem_int_inv κ.elem hv
  cases e : f k with
  | none => rw [e] at hr hc; simp only [Prod.mk.injEq, DataW.lit.injEq, Lit.int.injEq] at hc; rw [hr, ← hc.1.2]; rfl
  | some i => rw [e] at hr hc; simp only [Prod.mk.injEq, DataW.lit.injEq, Lit.int.injEq] at hc; rw [hr, ← hc.1.2]; rfl
theorem Mp.look1 (κ : Kind P t tk te q ek kl wk) {w Y : World} {b n : Nat} {f : K → Option Int} (h : Mp P tk te q kl wk w b n f) (e : Y.heap[b]? = w.heap[b]?) {k : K} (hk : wk k) :
    (Instr.lookup t (.map (some b)) (ek k) false).run P Y = .ok (.int q ((f k).getD 0)) Y := by
  obtain ⟨D, hm, hn, hD⟩ := h.kept e
  have hw0 : (Lit.int q 0).wf = true := by cases q <;> decide
  obtain ⟨c, hr, hat, _⟩ := hm.lookup_int κ.keyed κ.map κ.elem (κ.zero Y) (κ.key k hk)
  rw [hD k hk] at hat
  cases e : f k with
  | none => rw [e] at hat; simp only [DataW.lit.injEq, Lit.int.injEq] at hat; rw [hr, ← hat.2]; rfl
  | some i => rw [e] at hat; simp only [DataW.lit.injEq, Lit.int.injEq] at hat; rw [hr, ← hat.2]; rfl
theorem look_nil (κ : Kind P t tk te q ek kl wk) (Y : World) {k : K} (hk : wk k) : (Instr.lookup t (.map none) (ek k) true).run P Y = .ok (.tuple #[.int q 0, .bool false]) Y := by
  have hf : (Instr.findKey tk (ek k) []).run P Y = .ok none Y := by
    rcases κ.keyed.find Y (κ.key k hk) [] (by simp) with ⟨h1, _⟩ | ⟨j, e, _, h2, _⟩
    · exact h1
    · simp at h2
  simp [Instr.lookup, run_underlying κ.map, κ.keyed.check Y _ (κ.key k hk), hf, κ.zero Y, Result.andThen]
theorem Mp.upd {w' : World} (κ : Kind P t tk te q ek kl wk) {b m : Nat} {D : DataW Unit} {f : K → Option Int} {k : K} {x : Int} (hD : ∀ k, wk k → ∀ z, D.atKey (kl k) z = match f k with | some i => .lit (.int q i) | none => z) (hk : wk k)
    (hI : Maps.Tidy D) (hl : WideAt.IsKeyLit (kl k)) (h : w'.ownsMap P tk (plainElem P te) b m (D.put (kl k) (.lit (.int q x)))) :
    Mp P tk te q kl wk w' b (if (f k).isSome then Maps.size D else Maps.size D + 1) (upd f k x) := by
  have hs := Maps.size_put (k := kl k) hI (.lit (.int q x))
  rw [has_of κ (hD k hk)] at hs
  refine ⟨_, hs ▸ exact h, hs, fun k' hk' z => ?_⟩
  unfold Hp.upd
  by_cases e : k' = k
  · rw [if_pos e, e, Maps.atKey_put_same hI.isMap hl]
  · rw [if_neg e, Maps.atKey_put_other (fun e2 => e (κ.inj _ _ e2)), hD k' hk' z]
theorem Mp.put (κ : Kind P t tk te q ek kl wk) {w : World} {b n : Nat} {f : K → Option Int} (h : Mp P tk te q kl wk w b n f) (hn : n < maxLen) {k : K} (hk : wk k) {x : Int} (hx : (Lit.int q x).wf = true) :
    ∃ w2, (Instr.mapUpdate t (.map (some b)) (ek k) (.int q x)).run P w = .ok () w2 ∧ Mp P tk te q kl wk w2 b (if (f k).isSome then n else n + 1) (Hp.upd f k x) ∧ w.grownBy w2 (some b) := by
  obtain ⟨D, hm, hsz, hD⟩ := h
  obtain ⟨w2, hr, hm2, hg2⟩ := hm.update κ.keyed κ.map hn (κ.key k hk) (plainElem_int κ.elem hx)
  refine ⟨w2, hr, ?_, hg2⟩
  rw [← hsz]
  exact Mp.upd κ hD hk (hm.tidy κ.keyed) (κ.keyed.key (κ.key k hk)) hm2
theorem Mp.drop (κ : Kind P t tk te q ek kl wk) {w : World} {b n : Nat} {f : K → Option Int} (h : Mp P tk te q kl wk w b n f) {k : K} (hk : wk k) (hf : (f k).isSome = true) (ty : TypeId) :
    ∃ w2, (Builtin.delete_ #[t, tk] ty #[.map (some b), ek k]).run P w = .ok (.tuple #[]) w2 ∧ Mp P tk te q kl wk w2 b (n - 1) (del f k) ∧ w.grownBy w2 (some b) := by
  obtain ⟨D, hm, hsz, hD⟩ := h
  obtain ⟨w2, hr, hm2, es, clock, es2, clock2, hb, rfl⟩ := hm.drop κ.keyed κ.map (κ.key k hk) ty
  have hs := Maps.size_del (k := kl k) (hm.tidy κ.keyed)
  rw [has_of κ (hD k hk), hf, if_pos rfl] at hs
  have hs2 : Maps.size (D.del (kl k)) = n - 1 := by omega
  refine ⟨_, hr, ⟨_, hs2 ▸ exact hm2, hs2, fun k' hk' z => ?_⟩, ⟨rfl, rfl, rfl, by simp [ChangeMaps.setBlock], fun i _ hi => heap_setBlock_other hb _ (fun e => hi (by rw [e]))⟩⟩
  unfold del
  by_cases e : k' = k
  · rw [if_pos e, e, Maps.atKey_del_same]
  · rw [if_neg e, Maps.atKey_del_other (fun e2 => e (κ.inj _ _ e2)), hD k' hk' z]
theorem Mp.len (κ : Kind P t tk te q ek kl wk) {w Y : World} {b n : Nat} {f : K → Option Int} (h : Mp P tk te q kl wk w b n f) (e : Y.heap[b]? = w.heap[b]?) (ty : TypeId) : (Builtin.len_ #[t] ty #[.map (some b)]).run P Y = .ok (.int .i64 (n : Nat)) Y := by
  obtain ⟨D, hm, hsz, hD⟩ := h.kept e
  rw [← hsz]
  exact hm.len κ.map ty
/-- the entry of a key that is there -/
theorem Mp.entry (κ : Kind P t tk te q ek kl wk) {w : World} {b n : Nat} {f : K → Option Int} (h : Mp P tk te q kl wk w b n f) {k : K} (hk : wk k) (hf : (f k).isSome = true) :
    ∃ st v0, St w b (ek k) st ∧ (Instr.mapEntry t (.map (some b)) (ek k)).run P w = .ok (.tuple #[v0, goInt st]) w := by
  obtain ⟨D, ⟨es, clock, hb, F, hsz, rfl⟩, hn, hD⟩ := h
  rcases κ.keyed.find w (κ.key k hk) es.toList F.keys with ⟨h1, h2⟩ | ⟨j, e0, h1, h2, h3⟩
  · exfalso
    have hl := Maps.fit_look true κ.keyed κ.map (κ.zero w) hb F (κ.key k hk)
    rcases hl with ⟨_, _, hat⟩ | ⟨e0, y, hm, he, _⟩
    · have := has_of κ (hD k hk)
      rw [Maps.has_false_of_atKey hat, hf] at this
      cases this
    · exact h2 e0 hm he
  · have hj : es[j]? = some e0 := by simpa using h2
    have hsame : es.modify j (fun e => { e with key := ek k }) = es := by
      apply Array.ext'
      rw [Array.toList_modify, modify_eq_set _ _ _ _ h2]
      have : ({ e0 with key := ek k } : MapEntry) = e0 := by rw [← h3]
      rw [this]
      exact set_self _ _ _ h2
    have hset : ChangeMaps.setBlock w b (.map es clock) = w := by
      unfold ChangeMaps.setBlock
      have hlt := (Array.getElem?_eq_some_iff.1 hb).1
      have : w.heap.set! b (.map es clock) = w.heap := by
        refine Array.ext_getElem? fun i => ?_
        rw [Array.set!_eq_setIfInBounds, Array.getElem?_setIfInBounds]
        split
        · rename_i e; subst e; rw [hb]; try rw [if_pos hlt]
        · rfl
      first | rw [this] | (show { w with heap := w.heap.set! b (.map es clock) } = w; rw [this])
    refine ⟨e0.born, e0.val, ⟨es, clock, j, e0, hb, h2, h3, rfl⟩, ?_⟩
    have hrun : (Instr.mapEntry t (.map (some b)) (ek k)).run P w = .ok (.tuple #[e0.val, goInt e0.born]) (ChangeMaps.setBlock w b (.map es clock)) := by
      simp [Instr.mapEntry, run_underlying κ.map, MapKept.run_getObj_map hb, κ.keyed.check w false (κ.key k hk), h1, hj, h3, κ.keyed.stays w (κ.key k hk), hsame, MapKept.run_setObj_map _ hb, Result.andThen, ChangeMaps.setBlock]
    rw [hrun, hset]
theorem Mp.store (κ : Kind P t tk te q ek kl wk) {w : World} {b n : Nat} {f : K → Option Int} (h : Mp P tk te q kl wk w b n f) (hn : n < maxLen) {k : K} (hk : wk k) (hf : (f k).isSome = true) {st : Nat} (hst : St w b (ek k) st)
    {x : Int} (hx : (Lit.int q x).wf = true) :
    ∃ w2, (Instr.entryStore t (.map (some b)) (goInt st) (.int q x)).run P w = .ok () w2 ∧ Mp P tk te q kl wk w2 b n (Hp.upd f k x) ∧ w.grownBy w2 (some b) ∧ ∀ v s, St w b v s → St w2 b v s := by
  obtain ⟨w2, hr, hm2, hg2⟩ := h.put κ hn hk hx
  rw [hf, if_pos rfl] at hm2
  refine ⟨w2, ?_, hm2, hg2, ?_⟩
  all_goals
    obtain ⟨D, ⟨es, clock, hb, F, hsz, rfl⟩, hn, hD⟩ := h
    obtain ⟨es2, clock2, j, e0, hb2, hj2, h3, h4⟩ := hst
    rw [hb] at hb2
    obtain ⟨rfl, rfl⟩ := Obj.map.inj (Option.some.inj hb2)
    obtain ⟨s1, s2, s3⟩ := F.stamped
    have hj : es[j]? = some e0 := by simpa using hj2
    have hfind : (Instr.findKey tk (ek k) es.toList).run P w = .ok (some (j, e0.val)) w := by
      rcases κ.keyed.find w (κ.key k hk) es.toList F.keys with ⟨_, h2⟩ | ⟨j', e', h1, h2, h5⟩
      · exact absurd h3 (h2 e0 (List.mem_of_getElem? hj2))
      · have hjj : j' = j := by
          have hp := ((Go.MapKept.stamped_iff es clock).1 F.stamped).2.2
          rw [List.pairwise_iff_getElem] at hp
          obtain ⟨l1, g1⟩ := List.getElem?_eq_some_iff.1 h2
          obtain ⟨l2, g2⟩ := List.getElem?_eq_some_iff.1 hj2
          rcases Nat.lt_trichotomy j' j with hlt | heq | hgt
          · exact absurd (by rw [g1, g2, h5, h3]) (hp j' j l1 l2 hlt)
          · exact heq
          · exact absurd (by rw [g1, g2, h5, h3]) (hp j j' l2 l1 hgt)
        subst hjj
        rw [hj2] at h2
        obtain rfl := Option.some.inj h2
        exact h1
    have hrun : (Instr.mapUpdate t (.map (some b)) (ek k) (.int q x)).run P w = .ok () (ChangeMaps.setBlock w b (.map (es.modify j fun e' => { e' with key := ek k, val := .int q x }) clock)) := by
      simp [Instr.mapUpdate, run_underlying κ.map, MapKept.run_getObj_map hb, κ.keyed.check w false (κ.key k hk), hfind, hj, h3, κ.keyed.stays w (κ.key k hk), MapKept.run_setObj_map _ hb, Result.andThen, ChangeMaps.setBlock]
    rw [hr] at hrun
    obtain ⟨_, rfl⟩ := Result.ok.inj hrun
    have hmod : es.modify j (fun e => { e with val := .int q x }) = es.modify j (fun e' => { e' with key := ek k, val := .int q x }) := by
      apply Array.ext'
      rw [Array.toList_modify, Array.toList_modify, modify_eq_set _ _ _ _ hj2, modify_eq_set _ _ _ _ hj2, ← h3]
  · have hidx : es.findIdx? (fun e => ((e.born : Nat) : Int) == ((st : Nat) : Int)) = some j := by
      rw [findIdx_arr, ← h4]
      exact findIdx_born s2 hj2
    simp [Instr.entryStore, MapKept.run_getObj_map hb, asInt, asIntOf, goInt, hidx, hmod, MapKept.run_setObj_map _ hb, Result.andThen, ChangeMaps.setBlock]
  · rintro v s ⟨es3, clock3, j3, e3, hb3, hj3, h5, h6⟩
    rw [hb] at hb3
    obtain ⟨rfl, rfl⟩ := Obj.map.inj (Option.some.inj hb3)
    by_cases e : j3 = j
    · subst e
      rw [hj2] at hj3
      obtain rfl := Option.some.inj hj3
      exact ⟨_, clock, j3, { e0 with key := ek k, val := .int q x }, heap_setBlock_same hb _, by rw [Array.toList_modify, modify_eq_set _ _ _ _ hj2, List.getElem?_set_self (List.getElem?_eq_some_iff.1 hj2).1], h3 ▸ h5, h6⟩
    · exact ⟨_, clock, j3, e3, heap_setBlock_same hb _, by rw [Array.toList_modify, modify_eq_set _ _ _ _ hj2, List.getElem?_set_ne (fun e2 => e e2.symm)]; exact hj3, h5, h6⟩
end
end Go.Proofs.YtcodjknhnhdkfaaGreatDoor.Hp
namespace Go.Proofs.YtcodjknhnhdkfaaGreatDoor.Hp
open Go.RowKit Go.Maps Go.Sort
set_option linter.unusedVariables false
set_option linter.unusedSectionVars false

/-- but for the blocks of S all lies as it lay -/
structure Fr (S : Nat → Prop) (w w' : World) : Prop where
  os : w'.os = w.os
  tape : w'.tape = w.tape
  output : w'.output = w.output
  size : w.heap.size ≤ w'.heap.size
  block : ∀ k, k < w.heap.size → ¬ S k → w'.heap[k]? = w.heap[k]?
theorem Fr.refl (S : Nat → Prop) (w : World) : Fr S w w := ⟨rfl, rfl, rfl, Nat.le_refl _, fun _ _ _ => rfl⟩
theorem Fr.trans {S S' : Nat → Prop} {a b c : World} (h : Fr S a b) (k : Fr S' b c) (hs : ∀ x, S' x → S x ∨ a.heap.size ≤ x) : Fr S a c :=
  ⟨k.os.trans h.os, k.tape.trans h.tape, k.output.trans h.output, Nat.le_trans h.size k.size, fun x hx hn => (k.block x (Nat.lt_of_lt_of_le hx h.size) (fun e => (hs x e).elim hn (by omega))).trans (h.block x hx hn)⟩
theorem Fr.mono {S S' : Nat → Prop} {a b : World} (h : Fr S a b) (hs : ∀ x, x < a.heap.size → S x → S' x) : Fr S' a b := ⟨h.os, h.tape, h.output, h.size, fun x hx hn => h.block x hx (fun e => hn (hs x hx e))⟩
theorem Fr.grown {S : Nat → Prop} {w w' : World} {b : Nat} (h : w.grownBy w' (some b)) (hb : S b ∨ w.heap.size ≤ b) : Fr S w w' :=
  ⟨h.os, h.tape, h.output, h.size, fun k hk hn => h.block k hk (fun e => by obtain rfl := Option.some.inj e; rcases hb with hb | hb; exact hn hb; omega)⟩
theorem Fr.grownN {S : Nat → Prop} {w w' : World} {r : Option Nat} (h : w.grownBy w' r) (hb : ∀ b, r = some b → S b ∨ w.heap.size ≤ b) : Fr S w w' :=
  ⟨h.os, h.tape, h.output, h.size, fun k hk hn => h.block k hk (fun e => by rcases hb k e.symm with hb | hb; exact hn hb; omega)⟩
theorem Fr.alloc (S : Nat → Prop) (w : World) (o : Obj) : Fr S w (w.alloc o) := Fr.grownN (World.grownBy_alloc w o none) (fun _ e => by cases e)
theorem Fr.below {S : Nat → Prop} {w w' : World} {B : Nat} (h : Fr S w w') (hB : B ≤ w.heap.size) (hs : ∀ k, S k → B ≤ k) : Below B w w' :=
  ⟨h.os, h.tape, h.output, h.size, fun k hk => h.block k (by omega) (fun e => by have := hs k e; omega)⟩
theorem Fr.of_below {S : Nat → Prop} {w w' : World} (h : Below w.heap.size w w') : Fr S w w' := ⟨h.os, h.tape, h.output, h.size, fun k hk _ => h.block k hk⟩
theorem Fr.cell {S : Nat → Prop} {w w' : World} (h : Fr S w w') {a : Addr} {v : Value} (hc : w.cell? a = some v) (hn : ¬ S a.block) : w'.cell? a = some v := by
  have hl := World.block_lt_of_cell? _ _ hc
  have hb := h.block a.block hl hn
  unfold World.cell? at hc ⊢
  rw [hb]; exact hc
theorem Fr.drew {S : Nat → Prop} {w w' : World} (h : Fr S w w') : Fr S w w'.drew := ⟨h.os, h.tape, h.output, h.size, h.block⟩
/-- a whole order -/
structure Tot (K : Type) [LT K] : Prop where
  irrefl : ∀ x : K, ¬ x < x
  trans : ∀ x y z : K, x < y → y < z → x < z
  tri : ∀ x y : K, x < y ∨ x = y ∨ y < x
theorem tot_int : Tot Int := ⟨fun _ => by omega, fun _ _ _ => by omega, fun _ _ => by omega⟩
theorem tot_str : Tot (List UInt8) where
  irrefl x h := List.lt_irrefl x h
  trans x y z h1 h2 := List.lt_trans h1 h2
  tri x y := by
    by_cases h1 : x < y
    · exact .inl h1
    · by_cases h2 : y < x
      · exact .inr (.inr h2)
      · exact .inr (.inl (List.le_antisymm (List.not_lt.1 h2) (List.not_lt.1 h1)))
section
variable {K : Type} [LT K] [DecidableEq K] [DecidableLT K]
/-- the one with the lesser rank is first, of ranks that are alike the lesser key -/
def ltp (x y : K × Int) : Bool := decide (x.2 < y.2) || (decide (x.2 = y.2) && decide (x.1 < y.1))
theorem ltp_iff (x y : K × Int) : ltp x y = true ↔ x.2 < y.2 ∨ (x.2 = y.2 ∧ x.1 < y.1) := by unfold ltp; simp
theorem ltp_false (x y : K × Int) : ltp x y = false ↔ ¬ (x.2 < y.2 ∨ (x.2 = y.2 ∧ x.1 < y.1)) := by rw [← ltp_iff]; simp
theorem tot_nlt {x y : K} (T : Tot K) : ¬ x < y ↔ x = y ∨ y < x := by
  constructor
  · intro h
    rcases T.tri x y with h1 | h1 | h1
    · exact absurd h1 h
    · exact .inl h1
    · exact .inr h1
  · rintro (rfl | h) h2
    · exact T.irrefl _ h2
    · exact T.irrefl _ (T.trans _ _ _ h h2)
theorem swo (T : Tot K) : SWO (ltp (K := K)) where
  irrefl x := (ltp_false _ _).2 (by rintro (h | ⟨_, h⟩); omega; exact T.irrefl _ h)
  trans x y z h1 h2 := by
    rw [ltp_iff] at *
    rcases h1 with h1 | ⟨h1, h3⟩ <;> rcases h2 with h2 | ⟨h2, h4⟩
    · exact .inl (by omega)
    · exact .inl (by omega)
    · exact .inl (by omega)
    · exact .inr ⟨by omega, T.trans _ _ _ h3 h4⟩
  ntrans x y z h1 h2 := by
    rw [ltp_false] at *
    rintro (h | ⟨h, h3⟩)
    · have : ¬ x.2 < y.2 := fun e => h1 (.inl e)
      exact h2 (.inl (by omega))
    · have e1 : ¬ x.2 < y.2 := fun e => h1 (.inl e)
      have e2 : ¬ y.2 < z.2 := fun e => h2 (.inl e)
      have e3 : ¬ x.1 < y.1 := fun e => h1 (.inr ⟨by omega, e⟩)
      have e4 : ¬ y.1 < z.1 := fun e => h2 (.inr ⟨by omega, e⟩)
      rw [tot_nlt T] at e3 e4
      rcases e3 with e3 | e3 <;> rcases e4 with e4 | e4
      · rw [e3, e4] at h3; exact T.irrefl _ h3
      · rw [e3] at h3; exact T.irrefl _ (T.trans _ _ _ h3 e4)
      · rw [← e4] at h3; exact T.irrefl _ (T.trans _ _ _ h3 e3)
      · exact T.irrefl _ (T.trans _ _ _ h3 (T.trans _ _ _ e4 e3))
theorem ltp_tri (T : Tot K) (x y : K × Int) : ltp x y = true ∨ x = y ∨ ltp y x = true := by
  rw [ltp_iff, ltp_iff]
  rcases T.tri x.1 y.1 with h | h | h
  · by_cases e : x.2 = y.2
    · exact .inl (.inr ⟨e, h⟩)
    · by_cases e2 : x.2 < y.2
      · exact .inl (.inl e2)
      · exact .inr (.inr (.inl (by omega)))
  · by_cases e : x.2 = y.2
    · exact .inr (.inl (Prod.ext h e))
    · by_cases e2 : x.2 < y.2
      · exact .inl (.inl e2)
      · exact .inr (.inr (.inl (by omega)))
  · by_cases e : x.2 = y.2
    · exact .inr (.inr (.inr ⟨e.symm, h⟩))
    · by_cases e2 : x.2 < y.2
      · exact .inl (.inl e2)
      · exact .inr (.inr (.inl (by omega)))
/-- what 'compare' answers -/
def cfp (x y : K × Int) : Int := if x.2 < y.2 then -1 else if y.2 < x.2 then 1 else if x.1 < y.1 then -1 else if y.1 < x.1 then 1 else 0
theorem cfp_neg (x y : K × Int) : decide (cfp x y < 0) = ltp x y := by
  unfold cfp ltp
  by_cases h1 : x.2 < y.2
  · simp [h1]
  · by_cases h2 : y.2 < x.2
    · simp [h1, h2]; omega
    · have h3 : x.2 = y.2 := by omega
      by_cases h4 : x.1 < y.1
      · simp [h3, h4]
      · by_cases h5 : y.1 < x.1 <;> simp [h3, h4, h5]
end
theorem keyOf_str {P : Program} {k : TypeId} (h : P.underlying k = some .string) {l : List UInt8} (hl : l.length ≤ maxLen) : keyOf P k (encStr l) = some (.string l) := by
  have := WideMaps.keyOf_string_mk (P := P) (k := k) h (s := ⟨l.toArray⟩) (by show l.toArray.size ≤ maxLen; simpa using hl)
  simpa [encStr] using this
end Go.Proofs.YtcodjknhnhdkfaaGreatDoor.Hp
namespace Go.Proofs.YtcodjknhnhdkfaaGreatDoor.Hp
theorem gtr_str {P : Program} {t : TypeId} (x y : List UInt8) (W : World) : (binOp .gtr t (.string ⟨x.toArray⟩) (.string ⟨y.toArray⟩)).run P W = .ok (.bool (decide (y < x))) W := by
  have e : (!decide (x < y) && !(x == y)) = decide (y < x) := by
    rcases tot_str.tri x y with h | h | h
    · have h2 : ¬ y < x := fun h2 => tot_str.irrefl _ (tot_str.trans _ _ _ h h2)
      simp [h, h2]
    · subst h; simp [tot_str.irrefl]
    · have h2 : ¬ x < y := fun h2 => tot_str.irrefl _ (tot_str.trans _ _ _ h h2)
      have h3 : x ≠ y := fun e => by subst e; exact tot_str.irrefl _ h
      simp [h, h2, h3]
  simp [binOp, Op.stringOp, bytesLess_eq, Lib.toList_data, ← e, go_sem]
end Go.Proofs.YtcodjknhnhdkfaaGreatDoor.Hp
