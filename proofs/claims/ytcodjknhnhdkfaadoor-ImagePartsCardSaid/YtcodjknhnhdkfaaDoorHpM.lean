
/- plain mathematics of heaps: a tree in a row, settled; keys and their places -/
import Derived.Test.YtcodjknhnhdkfaaDoorRows
import Derived.Sort.Statements
namespace Go.Proofs.YtcodjknhnhdkfaaDoor.Hp
open Go.Sort
set_option linter.unusedVariables false
set_option linter.unusedSectionVars false
section
variable {α : Type} [Inhabited α]
/-- the one at a place -/
def el (l : List α) (i : Nat) : α := l.getD i default
theorem el_of {l : List α} {i : Nat} {x : α} (h : l[i]? = some x) : el l i = x := by unfold el; rw [List.getD_eq_getElem?_getD, h]; rfl
theorem el_get {l : List α} {i : Nat} (h : i < l.length) : l[i]? = some (el l i) := by
  unfold el; rw [List.getD_eq_getElem?_getD, List.getElem?_eq_getElem h]; rfl
theorem el_eq {l : List α} {i : Nat} (h : i < l.length) : el l i = l[i] := el_of (List.getElem?_eq_getElem h)
theorem el_mem {l : List α} {i : Nat} (h : i < l.length) : el l i ∈ l := by rw [el_eq h]; exact List.getElem_mem h
theorem mem_el {l : List α} {x : α} (h : x ∈ l) : ∃ i, i < l.length ∧ el l i = x := by
  obtain ⟨i, hi, e⟩ := List.getElem_of_mem h
  exact ⟨i, hi, by rw [el_eq hi, e]⟩
theorem el_set (l : List α) {i : Nat} (x : α) (h : i < l.length) : el (l.set i x) i = x := by
  refine el_of ?_
  rw [List.getElem?_set_self h]
theorem el_set_ne (l : List α) {i j : Nat} (x : α) (h : i ≠ j) : el (l.set i x) j = el l j := by
  unfold el; rw [List.getD_eq_getElem?_getD, List.getD_eq_getElem?_getD, List.getElem?_set_ne h]
theorem el_app (l : List α) (x : α) {j : Nat} (h : j < l.length) : el (l ++ [x]) j = el l j := by
  unfold el; rw [List.getD_eq_getElem?_getD, List.getD_eq_getElem?_getD, List.getElem?_append_left h]
theorem el_app_last (l : List α) (x : α) : el (l ++ [x]) l.length = x := el_of (by simp)
theorem el_take (l : List α) {n j : Nat} (h : j < n) : el (l.take n) j = el l j := by
  unfold el; rw [List.getD_eq_getElem?_getD, List.getD_eq_getElem?_getD, List.getElem?_take_of_lt h]
/-- two places changed -/
def sw (l : List α) (i j : Nat) : List α := (l.set i (el l j)).set j (el l i)
theorem len_sw (l : List α) (i j : Nat) : (sw l i j).length = l.length := by simp [sw]
theorem sw_r (l : List α) {i j : Nat} (hj : j < l.length) : el (sw l i j) j = el l i := by
  unfold sw; rw [el_set _ _ (by simpa using hj)]
theorem sw_l (l : List α) {i j : Nat} (hi : i < l.length) (hj : j < l.length) : el (sw l i j) i = el l j := by
  by_cases h : i = j
  · subst h; exact sw_r l hj
  · unfold sw; rw [el_set_ne _ _ (fun e => h e.symm), el_set _ _ hi]
theorem sw_o (l : List α) {i j k : Nat} (hi : k ≠ i) (hj : k ≠ j) : el (sw l i j) k = el l k := by
  unfold sw; rw [el_set_ne _ _ (fun e => hj e.symm), el_set_ne _ _ (fun e => hi e.symm)]
theorem sw_perm (l : List α) {i j : Nat} (hi : i < l.length) (hj : j < l.length) : (sw l i j).Perm l := by
  unfold sw
  rw [el_eq hi, el_eq hj]
  exact List.set_set_perm hi hj
/-- the place above -/
def par (i : Nat) : Nat := (i - 1) / 2
theorem par_lt {i : Nat} (h : 0 < i) : par i < i := by unfold par; omega
theorem par_kid {i j : Nat} (h : 0 < j) : par j = i ↔ j = 2 * i + 1 ∨ j = 2 * i + 2 := by unfold par; omega
/-- all in order -/
def Hpd (lt : α → α → Bool) (l : List α) : Prop := ∀ j, 0 < j → j < l.length → lt (el l j) (el l (par j)) = false
/-- all but the one at a place in order -/
def Okx (lt : α → α → Bool) (i : Nat) (l : List α) : Prop :=
  (∀ j, 0 < j → j < l.length → j ≠ i → par j ≠ i → lt (el l j) (el l (par j)) = false) ∧
  (∀ j, 0 < j → j < l.length → par j = i → 0 < i → lt (el l j) (el l (par i)) = false)
/-- .. and that one isn't ahead of the one above -/
def Dn (lt : α → α → Bool) (i : Nat) (l : List α) : Prop := Okx lt i l ∧ (0 < i → lt (el l i) (el l (par i)) = false)
variable {lt : α → α → Bool}
theorem asym (S : SWO lt) {x y : α} (h : lt x y = true) : lt y x = false := by
  cases e : lt y x with
  | false => rfl
  | true => have := S.trans x y x h e; rw [S.irrefl] at this; cases this
theorem Okx.up (S : SWO lt) {i : Nat} {l : List α} (h : Okx lt i l) (h0 : 0 < i) (hi : i < l.length) (hl : lt (el l i) (el l (par i)) = true) : Okx lt (par i) (sw l i (par i)) := by
  have hp := par_lt h0
  have hpl : par i < l.length := by omega
  refine ⟨fun j hj hjl hne hpne => ?_, fun j hj hjl hpj hp0 => ?_⟩
  · rw [len_sw] at hjl
    have hji : j ≠ i := fun e => hpne (by rw [e])
    rw [sw_o l hji hne]
    by_cases e : par j = i
    · rw [e, sw_l l hi hpl]
      exact h.2 j hj hjl e h0
    · rw [sw_o l e hpne]
      exact h.1 j hj hjl hji e
  · rw [len_sw] at hjl
    have hpp := par_lt hp0
    rw [sw_o l (show par (par i) ≠ i by omega) (show par (par i) ≠ par i by omega)]
    have h1 : lt (el l (par i)) (el l (par (par i))) = false := h.1 (par i) hp0 hpl (by omega) (by omega)
    by_cases e : j = i
    · subst e
      rw [sw_l l hi hpl]
      exact h1
    · have hjp : j ≠ par i := fun e2 => by rw [← e2] at hpj; have := par_lt hj; omega
      rw [sw_o l e hjp]
      have h2 := h.1 j hj hjl e (by omega)
      rw [hpj] at h2
      exact S.ntrans _ _ _ h2 h1
theorem Okx.dn {i : Nat} {l : List α} (h : Okx lt i l) (hs : i = 0 ∨ lt (el l i) (el l (par i)) = false) : Dn lt i l := ⟨h, fun h0 => hs.resolve_left (by omega)⟩
/-- the one ahead of the other, of those below a place -/
def kid (lt : α → α → Bool) (l : List α) (i : Nat) : Nat := if 2 * i + 2 < l.length ∧ lt (el l (2 * i + 2)) (el l (2 * i + 1)) = true then 2 * i + 2 else 2 * i + 1
theorem kid_par (l : List α) (i : Nat) : par (kid lt l i) = i := by unfold kid par; split <;> omega
theorem kid_gt (l : List α) (i : Nat) : i < kid lt l i := by unfold kid; split <;> omega
theorem kid_le (l : List α) (i : Nat) : kid lt l i ≤ 2 * i + 2 := by unfold kid; split <;> omega
theorem kid_best (S : SWO lt) (l : List α) {i c : Nat} (hc0 : 0 < c) (hc : c < l.length) (hp : par c = i) : kid lt l i < l.length ∧ lt (el l c) (el l (kid lt l i)) = false := by
  rcases (par_kid hc0).1 hp with rfl | rfl
  · unfold kid
    split
    · rename_i h
      exact ⟨h.1, asym S h.2⟩
    · exact ⟨hc, S.irrefl _⟩
  · unfold kid
    split
    · rename_i h
      exact ⟨h.1, S.irrefl _⟩
    · rename_i h
      refine ⟨by omega, ?_⟩
      cases e : lt (el l (2 * i + 2)) (el l (2 * i + 1)) with
      | false => rfl
      | true => exact absurd ⟨hc, e⟩ h
theorem Dn.down (S : SWO lt) {i : Nat} {l : List α} (h : Dn lt i l) (hj : kid lt l i < l.length) (hl : lt (el l (kid lt l i)) (el l i) = true) : Dn lt (kid lt l i) (sw l i (kid lt l i)) := by
  have hg : i < kid lt l i := kid_gt l i
  have hb := fun (c : Nat) (h0 : 0 < c) (hc : c < l.length) (hp : par c = i) => (kid_best S l h0 hc hp).2
  have hpj : par (kid lt l i) = i := kid_par l i
  generalize hk : kid lt l i = k at *
  have hi : i < l.length := by omega
  refine ⟨⟨fun j h0 hjl hne hpne => ?_, fun j h0 hjl hpj2 hk0 => ?_⟩, fun _ => ?_⟩
  · rw [len_sw] at hjl
    by_cases e : par j = i
    · by_cases e2 : j = i
      · subst e2; have := par_lt h0; omega
      · rw [sw_o l e2 hne, e, sw_l l hi hj]
        exact hb j h0 hjl e
    · by_cases e2 : j = i
      · subst e2
        rw [sw_l l hi hj, sw_o l (by have := par_lt h0; omega) hpne]
        have := h.1.2 k (by omega) hj hpj h0
        exact this
      · rw [sw_o l e2 hne, sw_o l e hpne]
        exact h.1.1 j h0 hjl e2 e
  · rw [len_sw] at hjl
    have hjk : j ≠ k := fun e => by rw [e] at hpj2; have := par_lt hk0; omega
    have hji : j ≠ i := fun e => by rw [e] at hpj2 h0; have := par_lt h0; omega
    rw [hpj, sw_o l hji hjk, sw_l l hi hj]
    have := h.1.1 j h0 hjl hji (by omega)
    rw [hpj2] at this
    exact this
  · rw [hpj, sw_r l hj, sw_l l hi hj]
    exact asym S hl
theorem Dn.stop (S : SWO lt) {i : Nat} {l : List α} (h : Dn lt i l) (hs : l.length ≤ kid lt l i ∨ lt (el l (kid lt l i)) (el l i) = false) : Hpd lt l := fun j h0 hjl => by
  by_cases e : j = i
  · subst e; exact h.2 h0
  · by_cases e2 : par j = i
    · obtain ⟨h1, h2⟩ := kid_best S l h0 hjl e2
      rcases hs with hs | hs
      · omega
      · rw [e2]; exact S.ntrans _ _ _ h2 hs
    · exact h.1.1 j h0 hjl e e2
theorem Hpd.okx (S : SWO lt) {l : List α} (h : Hpd lt l) {i : Nat} (hi : i < l.length) (x : α) : Okx lt i (l.set i x) := by
  refine ⟨fun j h0 hjl hne hp => ?_, fun j h0 hjl hp hi0 => ?_⟩
  · rw [List.length_set] at hjl
    rw [el_set_ne _ _ (fun e => hne e.symm), el_set_ne _ _ (fun e => hp e.symm)]
    exact h j h0 hjl
  · rw [List.length_set] at hjl
    have h1 := par_lt hi0
    have h2 := par_lt h0
    rw [el_set_ne _ _ (show i ≠ j by omega), el_set_ne _ _ (show i ≠ par i by omega)]
    have h3 := h j h0 hjl
    rw [hp] at h3
    exact S.ntrans _ _ _ h3 (h i hi0 (by omega))
theorem Hpd.okx_app {l : List α} (h : Hpd lt l) (x : α) : Okx lt l.length (l ++ [x]) := by
  refine ⟨fun j h0 hjl hne hp => ?_, fun j h0 hjl hp hi0 => ?_⟩
  · rw [List.length_append, List.length_singleton] at hjl
    have := par_lt h0
    rw [el_app _ _ (by omega), el_app _ _ (by omega)]
    exact h j h0 (by omega)
  · rw [List.length_append, List.length_singleton] at hjl
    have := par_lt h0
    omega
theorem Hpd.take {l : List α} (h : Hpd lt l) (n : Nat) : Hpd lt (l.take n) := fun j h0 hjl => by
  rw [List.length_take] at hjl
  have := par_lt h0
  rw [el_take _ (by omega), el_take _ (by omega)]
  exact h j h0 (by omega)
/-- the one at a place gone, the last one in its place -/
theorem sw_take (l : List α) {i : Nat} (hi : i < l.length - 1) : (sw l i (l.length - 1)).take (l.length - 1) = (l.take (l.length - 1)).set i (el l (l.length - 1)) := by
  refine List.ext_getElem? fun j => ?_
  by_cases hj : j < l.length - 1
  · rw [List.getElem?_take_of_lt hj]
    have h1 : (sw l i (l.length - 1))[j]? = some (el (sw l i (l.length - 1)) j) := el_get (by rw [len_sw]; omega)
    have h2 : ((l.take (l.length - 1)).set i (el l (l.length - 1)))[j]? = some (el ((l.take (l.length - 1)).set i (el l (l.length - 1))) j) := el_get (by simp; omega)
    rw [h1, h2]
    by_cases e : j = i
    · subst e
      rw [sw_l l (by omega) (by omega), el_set _ _ (by simp; omega)]
    · rw [sw_o l e (by omega), el_set_ne _ _ (fun e2 => e e2.symm), el_take _ hj]
  · rw [List.getElem?_eq_none (by simp; omega), List.getElem?_eq_none (by simp; omega)]
theorem sw_self (l : List α) {i : Nat} (hi : i < l.length) : sw l i i = l := by
  unfold sw
  rw [el_eq hi]; simp
theorem Hpd.drop (S : SWO lt) {l : List α} (h : Hpd lt l) {i : Nat} (hi : i < l.length - 1) : Okx lt i ((sw l i (l.length - 1)).take (l.length - 1)) := by
  rw [sw_take l hi]
  exact (h.take _).okx S (by simp; omega) _
theorem drop_perm (l : List α) {i : Nat} (hi : i < l.length) : ((sw l i (l.length - 1)).take (l.length - 1) ++ [el l i]).Perm l := by
  have h1 := sw_perm l hi (show l.length - 1 < l.length by omega)
  have h2 : (sw l i (l.length - 1)).drop (l.length - 1) = [el l i] := by
    refine List.ext_getElem? fun j => ?_
    cases j with
    | zero =>
      rw [List.getElem?_drop, Nat.add_zero, el_get (by rw [len_sw]; omega), sw_r l (by omega)]; rfl
    | succ j =>
      rw [List.getElem?_eq_none (by simp [len_sw]; omega), List.getElem?_eq_none (by simp)]
  rw [← h2, List.take_append_drop]
  exact h1
/-- the first one is the least one -/
theorem Hpd.least (S : SWO lt) {l : List α} (h : Hpd lt l) : ∀ j, j < l.length → lt (el l j) (el l 0) = false := by
  intro j
  induction j using Nat.strongRecOn with
  | _ j ih =>
    intro hj
    by_cases h0 : j = 0
    · subst h0; exact S.irrefl _
    · exact S.ntrans _ _ _ (h j (by omega) hj) (ih (par j) (par_lt (by omega)) (by have := par_lt (i := j) (by omega); omega))
end
section
variable {K R : Type} [Inhabited K] [Inhabited R] [DecidableEq K]
/-- where each key's item stands -/
def Pl (f : K → Option Nat) (l : List (K × R)) : Prop := ∀ k i, f k = some i ↔ i < l.length ∧ (el l i).1 = k
def upd {V : Type} (f : K → Option V) (k : K) (v : V) : K → Option V := fun x => if x = k then some v else f x
def del {V : Type} (f : K → Option V) (k : K) : K → Option V := fun x => if x = k then none else f x
theorem Pl.key {f : K → Option Nat} {l : List (K × R)} (h : Pl f l) {i : Nat} (hi : i < l.length) : f (el l i).1 = some i := (h _ _).2 ⟨hi, rfl⟩
theorem Pl.inj {f : K → Option Nat} {l : List (K × R)} (h : Pl f l) {i j : Nat} (hi : i < l.length) (hj : j < l.length) (e : (el l i).1 = (el l j).1) : i = j := by
  have h1 := h.key hi
  rw [e, h.key hj] at h1
  exact (Option.some.inj h1).symm
theorem Pl.sw {f : K → Option Nat} {l : List (K × R)} (h : Pl f l) {i j : Nat} (hi : i < l.length) (hj : j < l.length) :
    Pl (upd (upd f (el (sw l i j) i).1 i) (el (sw l i j) j).1 j) (sw l i j) := by
  intro k m
  rw [len_sw, sw_l l hi hj, sw_r l hj]
  unfold upd
  by_cases hk : k = (el l i).1
  · rw [if_pos hk]
    constructor
    · intro e
      obtain rfl := Option.some.inj e
      exact ⟨hj, by rw [sw_r l hj, hk]⟩
    · rintro ⟨h1, h2⟩
      by_cases hmj : m = j
      · rw [hmj]
      · by_cases hmi : m = i
        · subst hmi
          rw [sw_l l hi hj, hk] at h2
          exact absurd (h.inj hj hi h2).symm hmj
        · rw [sw_o l hmi hmj, hk] at h2
          exact absurd (h.inj h1 hi h2) hmi
  · rw [if_neg hk]
    by_cases hk2 : k = (el l j).1
    · rw [if_pos hk2]
      constructor
      · intro e
        obtain rfl := Option.some.inj e
        exact ⟨hi, by rw [sw_l l hi hj, hk2]⟩
      · rintro ⟨h1, h2⟩
        by_cases hmi : m = i
        · rw [hmi]
        · by_cases hmj : m = j
          · subst hmj
            rw [sw_r l hj] at h2
            exact absurd h2.symm hk
          · rw [sw_o l hmi hmj, hk2] at h2
            exact absurd (h.inj h1 hj h2) hmj
    · rw [if_neg hk2, h k m]
      constructor
      · rintro ⟨h1, h2⟩
        refine ⟨h1, ?_⟩
        rw [sw_o l (fun e => by subst e; exact hk h2.symm) (fun e => by subst e; exact hk2 h2.symm)]
        exact h2
      · rintro ⟨h1, h2⟩
        refine ⟨h1, ?_⟩
        by_cases hmi : m = i
        · subst hmi; rw [sw_l l hi hj] at h2; exact absurd h2.symm hk2
        · by_cases hmj : m = j
          · subst hmj; rw [sw_r l hj] at h2; exact absurd h2.symm hk
          · rw [sw_o l hmi hmj] at h2; exact h2
theorem Pl.set {f : K → Option Nat} {l : List (K × R)} (h : Pl f l) {i : Nat} (hi : i < l.length) (r : R) : Pl f (l.set i ((el l i).1, r)) := by
  intro k m
  rw [h k m, List.length_set]
  by_cases e : i = m
  · subst e; rw [el_set _ _ hi]
  · rw [el_set_ne _ _ e]
theorem Pl.app {f : K → Option Nat} {l : List (K × R)} (h : Pl f l) {k : K} (hk : f k = none) (r : R) : Pl (upd f k l.length) (l ++ [(k, r)]) := by
  intro x m
  unfold upd
  rw [List.length_append, List.length_singleton]
  by_cases e : x = k
  · rw [if_pos e]
    constructor
    · intro e2
      obtain rfl := Option.some.inj e2
      exact ⟨by omega, by rw [el_app_last, e]⟩
    · rintro ⟨h1, h2⟩
      by_cases e2 : m = l.length
      · rw [e2]
      · rw [el_app _ _ (by omega), e] at h2
        have := h.key (show m < l.length by omega)
        rw [h2, hk] at this; cases this
  · rw [if_neg e, h x m]
    constructor
    · rintro ⟨h1, h2⟩
      exact ⟨by omega, by rw [el_app _ _ h1]; exact h2⟩
    · rintro ⟨h1, h2⟩
      by_cases e2 : m = l.length
      · rw [e2, el_app_last] at h2; exact absurd h2.symm e
      · rw [el_app _ _ (by omega)] at h2
        exact ⟨by omega, h2⟩
theorem Pl.pop {f : K → Option Nat} {l : List (K × R)} (h : Pl f l) (hl : 0 < l.length) : Pl (del f (el l (l.length - 1)).1) (l.take (l.length - 1)) := by
  intro k m
  unfold del
  rw [List.length_take, Nat.min_eq_left (by omega)]
  by_cases e : k = (el l (l.length - 1)).1
  · rw [if_pos e]
    constructor
    · intro e2; cases e2
    · rintro ⟨h1, h2⟩
      rw [el_take _ h1, e] at h2
      have := h.inj (show m < l.length by omega) (show l.length - 1 < l.length by omega) h2
      omega
  · rw [if_neg e, h k m]
    constructor
    · rintro ⟨h1, h2⟩
      have : m ≠ l.length - 1 := fun e2 => by rw [e2] at h2; exact e h2.symm
      exact ⟨by omega, by rw [el_take _ (by omega)]; exact h2⟩
    · rintro ⟨h1, h2⟩
      rw [el_take _ h1] at h2
      exact ⟨by omega, h2⟩
theorem Pl.nodup {f : K → Option Nat} {l : List (K × R)} (h : Pl f l) : (l.map (·.1)).Nodup := by
  rw [List.nodup_iff_pairwise_ne, List.pairwise_map, List.pairwise_iff_getElem]
  intro i j hi hj hij e
  have := h.inj hi hj (by rw [el_eq hi, el_eq hj]; exact e)
  omega
theorem Pl.none {f : K → Option Nat} {l : List (K × R)} (h : Pl f l) {k : K} (hk : f k = none) : k ∉ l.map (·.1) := by
  intro hm
  obtain ⟨x, hx, rfl⟩ := List.mem_map.1 hm
  obtain ⟨i, hi, rfl⟩ := mem_el hx
  rw [h.key hi] at hk; cases hk
/-- what stays when a key goes -/
def cut (k : K) (l : List (K × R)) : List (K × R) := l.filter fun x => decide (x.1 ≠ k)
theorem cut_not {k : K} {l : List (K × R)} (h : k ∉ l.map (·.1)) : cut k l = l := by
  unfold cut
  refine List.filter_eq_self.2 fun x hx => ?_
  rw [decide_eq_true_eq]
  exact fun e => h (e ▸ List.mem_map_of_mem hx)
theorem cut_perm {k : K} {l m : List (K × R)} (h : l.Perm m) : (cut k l).Perm (cut k m) := h.filter _
theorem mem_cut {k : K} {l : List (K × R)} {x : K × R} : x ∈ cut k l ↔ x ∈ l ∧ x.1 ≠ k := by unfold cut; rw [List.mem_filter, decide_eq_true_eq]
theorem cut_of {k : K} {l m : List (K × R)} {r : R} (h : (m ++ [(k, r)]).Perm l) (hn : (l.map (·.1)).Nodup) : m.Perm (cut k l) := by
  have h1 := cut_perm (k := k) h
  have h2 : ((m ++ [(k, r)]).map (·.1)).Nodup := (h.map _).nodup_iff.2 hn
  rw [List.map_append, List.nodup_append] at h2
  have h3 : k ∉ m.map (·.1) := fun e => h2.2.2 k e k (by simp) rfl
  have h4 : cut k (m ++ [(k, r)]) = m := by
    have : cut k (m ++ [(k, r)]) = cut k m ++ cut k [(k, r)] := List.filter_append _ _
    rw [this, cut_not h3]
    simp [cut]
  rw [h4] at h1
  exact h1
theorem set_cut {l : List (K × R)} {i : Nat} (hi : i < l.length) (hn : (l.map (·.1)).Nodup) (r : R) : (l.set i ((el l i).1, r)).Perm (((el l i).1, r) :: cut (el l i).1 l) := by
  have h1 : l = l.take i ++ el l i :: l.drop (i + 1) := by rw [el_eq hi]; simp
  have h2 : l.set i ((el l i).1, r) = l.take i ++ ((el l i).1, r) :: l.drop (i + 1) := by rw [List.set_eq_take_append_cons_drop, if_pos hi]
  rw [h2]
  refine List.perm_middle.trans (List.Perm.cons _ ?_)
  refine cut_of (r := (el l i).2) ?_ hn
  have h3 : (el l i :: (l.take i ++ l.drop (i + 1))).Perm l := by
    conv => rhs; rw [h1]
    exact List.perm_middle.symm
  exact (List.perm_append_singleton _ _).trans h3
end
end Go.Proofs.YtcodjknhnhdkfaaDoor.Hp
