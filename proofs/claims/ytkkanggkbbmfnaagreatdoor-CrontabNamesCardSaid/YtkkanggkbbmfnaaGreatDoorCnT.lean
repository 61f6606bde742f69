
/- plain mathematics of an expression's text: bits, one by one; values with commas -/
import Derived.Test.YtkkanggkbbmfnaaGreatDoorCn9
import Derived.Lib.TrailingZeros
import Derived.Lib.ItoaNum
namespace Go.Proofs.YtkkanggkbbmfnaaGreatDoor.Cn
open Go.RowKit Go.Lib
set_option linter.unusedVariables false

theorem ctz_spec {x : Nat} (h0 : x ≠ 0) (h : x < 18446744073709551616) :
    ctz 64 x < 64 ∧ x.testBit (ctz 64 x) = true ∧ (∀ j, j < ctz 64 x → x.testBit j = false) ∧ ∀ j, (x &&& (x - 1)).testBit j = (x.testBit j && decide (ctz 64 x < j)) := by
  obtain ⟨m, hm, hk⟩ := ctzFrom_spec 64 x (by omega) h
  have e : ctz 64 x = ctzFrom 64 x := by simp [ctz, h0]
  rw [e]
  generalize ctzFrom 64 x = c at hm hk
  have hp : 2 ^ c < 2 ^ (c + 1) := Nat.pow_lt_pow_right (by decide) (by omega)
  have hpos : 0 < 2 ^ c := Nat.two_pow_pos c
  have hx : x = 2 ^ (c + 1) * m + 2 ^ c := by rw [hm, Nat.pow_succ, Nat.mul_add, Nat.mul_one, Nat.mul_assoc]
  have hx1 : x - 1 = 2 ^ (c + 1) * m + (2 ^ c - 1) := by omega
  have b0 : ∀ j, x.testBit j = if j < c + 1 then (2 ^ c).testBit j else m.testBit (j - (c + 1)) := fun j => by rw [hx]; exact Nat.testBit_two_pow_mul_add m hp j
  have b1 : ∀ j, (x - 1).testBit j = if j < c + 1 then (2 ^ c - 1).testBit j else m.testBit (j - (c + 1)) := fun j => by rw [hx1]; exact Nat.testBit_two_pow_mul_add m (by omega) j
  refine ⟨hk, ?_, ?_, ?_⟩
  · rw [b0, if_pos (by omega), Nat.testBit_two_pow]; simp
  · intro j hj
    rw [b0, if_pos (by omega), Nat.testBit_two_pow]; simp; omega
  · intro j
    rw [Nat.testBit_and, b0, b1]
    by_cases hj : j < c + 1
    · rw [if_pos hj, if_pos hj, Nat.testBit_two_pow, Nat.testBit_two_pow_sub_one]
      have : ¬ c < j := by omega
      by_cases hcj : c = j
      · subst hcj; simp
      · simp [hcj]
    · rw [if_neg hj, if_neg hj]
      have : c < j := by omega
      simp [this]
/-- the bits below k, rising -/
def bel (n k : Nat) : List Nat := (List.range k).filter fun j => n.testBit j
abbrev bitsL (n : Nat) : List Nat := bel n 64
/-- the bits from k on -/
abbrev hi (n k : Nat) : Nat := mk fun x => n.testBit x && decide (k ≤ x)
theorem bel_zero (n : Nat) : bel n 0 = [] := rfl
theorem bel_succ (n k : Nat) : bel n (k + 1) = bel n k ++ if n.testBit k then [k] else [] := by
  unfold bel
  rw [List.range_succ, List.filter_append]
  cases h : n.testBit k <;> simp [h]
theorem bel_gap (n k : Nat) : ∀ d, (∀ j, k ≤ j → j < k + d → n.testBit j = false) → bel n (k + d) = bel n k
  | 0, _ => rfl
  | d + 1, h => by
    rw [← Nat.add_assoc, bel_succ, h (k + d) (by omega) (by omega), bel_gap n k d (fun j h1 h2 => h j h1 (by omega))]
    simp
theorem bel_len (n k : Nat) : (bel n k).length ≤ k := by
  have := List.length_filter_le (fun j => n.testBit j) (List.range k)
  rw [List.length_range] at this
  exact this
theorem mem_bel {n k j : Nat} : j ∈ bel n k ↔ j < k ∧ n.testBit j = true := by unfold bel; rw [List.mem_filter, List.mem_range]
theorem hi_zero {n : Nat} (h : n < 18446744073709551616) : hi n 0 = n := by
  conv => rhs; rw [nat_mk h]
  exact mk_congr fun x _ => by simp
theorem hi_next {n k : Nat} (h0 : hi n k ≠ 0) (hk : k ≤ 64) :
    ctz 64 (hi n k) < 64 ∧ k ≤ ctz 64 (hi n k) ∧ hi n k &&& (hi n k - 1) = hi n (ctz 64 (hi n k) + 1) ∧ bel n (ctz 64 (hi n k) + 1) = bel n k ++ [ctz 64 (hi n k)] := by
  obtain ⟨h1, h2, h3, h4⟩ := ctz_spec h0 (mk_lt _)
  generalize hc : ctz 64 (hi n k) = c at h1 h2 h3 h4
  have h2' := h2
  rw [mk_bit] at h2'
  simp only [Bool.and_eq_true, decide_eq_true_eq] at h2'
  refine ⟨h1, h2'.2.2, ?_, ?_⟩
  · refine mk_eq (Nat.lt_of_le_of_lt Nat.and_le_left (mk_lt _)) fun x hx => ?_
    rw [h4, mk_bit, Bool.eq_iff_iff]
    simp only [Bool.and_eq_true, decide_eq_true_eq]
    exact ⟨fun h => ⟨h.1.2.1, by omega⟩, fun h => ⟨⟨hx, h.1, by omega⟩, by omega⟩⟩
  · obtain ⟨d, hd⟩ : ∃ d, c = k + d := ⟨c - k, by omega⟩
    have hgap := bel_gap n k d (fun j j1 j2 => by
      have := h3 j (by omega)
      rw [mk_bit] at this
      simp only [Bool.and_eq_false_iff, decide_eq_false_iff_not] at this
      rcases this with h | h | h
      · omega
      · exact h
      · omega)
    rw [bel_succ, hd, hgap, ← hd, h2'.2.1]; rfl
theorem hi_end {n k : Nat} (h0 : hi n k = 0) (hk : k ≤ 64) : bel n 64 = bel n k := by
  obtain ⟨d, hd⟩ : ∃ d, 64 = k + d := ⟨64 - k, by omega⟩
  rw [hd]
  refine bel_gap n k d fun j j1 j2 => ?_
  have h := mk_bit (fun x => n.testBit x && decide (k ≤ x)) j
  rw [show mk (fun x => n.testBit x && decide (k ≤ x)) = 0 from h0, Nat.zero_testBit] at h
  have h5 : decide (j < 64) = true := decide_eq_true (by omega)
  have h6 : decide (k ≤ j) = true := decide_eq_true j1
  rw [h5, h6] at h
  simpa using h.symm
/-- values with commas -/
def listT (n : Nat) : L := if n = 0 then [45] else join ((bitsL n).map decDigits) [44]
def textT (n : Nat) (star : Bool) : L := if star = true then [42] else listT n
def allM (i : Nat) : Nat := mk (inP ((fds i).lo, (fds i).hi, 1))
/-- an expression's text -/
def exT (e : Ex) : L := join [textT e.a (decide (e.a = allM 0)), textT e.b (decide (e.b = allM 1)), textT e.c e.x, textT e.d (decide (e.d = allM 3)), textT e.e e.y] [32]
theorem dec_len {j : Nat} (h : j < 64) : (decDigits j).length ≤ 2 := by
  by_cases h1 : j < 10
  · rw [decDigits_one h1]; simp
  · rw [decDigits_two h1 (by omega)]; simp
theorem lens_le : ∀ l : List Nat, (∀ j ∈ l, j < 64) → lens (l.map decDigits) ≤ 2 * l.length
  | [], _ => by simp [lens]
  | j :: l, h => by
    have h1 := dec_len (h j List.mem_cons_self)
    have h2 := lens_le l fun x hx => h x (List.mem_cons_of_mem _ hx)
    simp only [lens, List.map_cons, List.sum_cons, List.length_cons] at h2 ⊢
    omega
theorem listT_len (n : Nat) : (listT n).length ≤ 200 := by
  unfold listT
  split
  · decide
  · have h1 : (bitsL n).length ≤ 64 := bel_len n 64
    have h2 := lens_le (bitsL n) fun j hj => (mem_bel.1 hj).1
    cases hb : bitsL n with
    | nil => simp [join_nil]
    | cons j l =>
      rw [hb] at h1 h2
      rw [List.map_cons, join_length]
      simp only [List.map_cons, List.length_cons, List.length_map, List.length_nil] at h1 h2 ⊢
      omega
theorem textT_len (n : Nat) (s : Bool) : (textT n s).length ≤ 200 := by
  unfold textT
  split
  · decide
  · exact listT_len n
end Go.Proofs.YtkkanggkbbmfnaaGreatDoor.Cn
