
/- fires: the ticks of a day, one by one -/
import Derived.Test.YtkkanggkbbmfnaaGreatDoorFi2
import Derived.Test.YtkkanggkbbmfnaaGreatDoorFiR
import Derived.Test.YtkkanggkbbmfnaaGreatDoorHd
import Derived.Shelf.Abstract
import Derived.Shelf.RegionOpen
import Derived.OwnWalkIn
import Derived.TacticsInMore
import Derived.LoopNIn
import Derived.LoopIn
namespace Go.Proofs.YtkkanggkbbmfnaaGreatDoor.Fi
open Go.RowKit Go.Lib Go.Proofs.YtkkanggkbbmfnaaGreatDoor.Cn Go.Proofs.YtkkanggkbbmfnaaGreatDoor.Rg
attribute [local go_sem] Oper.semAt_some
set_option linter.unusedVariables false

/-- the boxes that the iterator reads -/
abbrev tickB (b : Nat) : Array Value := #[.pointer (some ⟨b, 0, none⟩), .pointer (some ⟨b + 1, 0, none⟩), .pointer (some ⟨b + 2, 0, none⟩)]
structure TB (b : Nat) (e : Ex) (F a : Int) (w : World) : Prop where
  e : w.heap[b]? = some (.cells (exC e) 57 (0, 0))
  f : w.heap[b + 1]? = some (.cells #[.int .i64 F] 2 (0, 0))
  a : w.heap[b + 2]? = some (.cells #[.int .i64 a] 2 (0, 0))
  d : Db w
def tbox (b : Nat) (k : Nat) : Prop := k = b ∨ k = b + 1 ∨ k = b + 2 ∨ k = 5
theorem TB.lt {b : Nat} {e : Ex} {F a : Int} {w : World} (h : TB b e F a w) : b + 2 < w.heap.size := (Array.getElem?_eq_some_iff.1 h.a).1
theorem TB.keep {b : Nat} {e : Ex} {F a : Int} {w w' : World} (h : TB b e F a w) {own : Nat → Prop} (hb : BelowO own w w') (ho : ∀ k, own k → ¬ tbox b k) : TB b e F a w' := by
  have hl := h.lt
  exact ⟨(hb.block b (by omega) (fun k => ho _ k (.inl rfl))).trans h.e, (hb.block _ (by omega) (fun k => ho _ k (.inr (.inl rfl)))).trans h.f, (hb.block _ (by omega) (fun k => ho _ k (.inr (.inr (.inl rfl))))).trans h.a,
    h.d.keep (hb.block _ h.d.lt (fun k => ho _ k (.inr (.inr (.inr rfl)))))⟩
theorem TB.old {b : Nat} {e : Ex} {F a : Int} {w w' : World} (h : TB b e F a w) (hb : Below w.heap.size w w') : TB b e F a w' := h.keep (own := fun _ => False) (.of hb) (fun _ h => h.elim)
/-- what is told so far: hours below k are through -/
structure Hp (e : Ex) (F a : Int) (k : Nat) (p : Int) : Prop where
  ga : a ≤ p
  gn : ∀ u, p < u → tn e F u → F + 60 * k ≤ u
  gp : p = a ∨ p < F + 60 * k
/-- .. and of hour i the minutes below j -/
structure Mp (e : Ex) (F a : Int) (i j : Nat) (p : Int) : Prop where
  ga : a ≤ p
  gn : ∀ u, p < u → tn e F u → F + 60 * i + j ≤ u
  gp : p = a ∨ p < F + 60 * i + j
theorem hi_bit (n k x : Nat) : (hi n k).testBit x = (decide (x < 64) && (n.testBit x && decide (k ≤ x))) := mk_bit _ _
theorem hi_no {n k x : Nat} (hn : n < 18446744073709551616) (h : hi n k = 0) (hk : k ≤ x) : n.testBit x = false := by
  have h1 := hi_bit n k x
  rw [h, Nat.zero_testBit, decide_eq_true hk] at h1
  by_cases hx : x < 64
  · rw [decide_eq_true hx] at h1; simpa using h1.symm
  · exact Nat.testBit_lt_two_pow (Nat.lt_of_lt_of_le (show n < 2 ^ 64 from hn) (Nat.pow_le_pow_right (n := 2) (by decide) (show 64 ≤ x by omega)))
/-- the next bit -/
theorem hi_one {n k : Nat} (hn : n < 18446744073709551616) (h0 : hi n k ≠ 0) (hk : k ≤ 64) :
    lst (hi n k) < 64 ∧ k ≤ lst (hi n k) ∧ hi n k &&& (hi n k - 1) = hi n (lst (hi n k) + 1) ∧ n.testBit (lst (hi n k)) = true ∧ ∀ x, k ≤ x → x < lst (hi n k) → n.testBit x = false := by
  obtain ⟨h1, h2, h3, _⟩ := hi_next h0 hk
  obtain ⟨s1, s2, s3, _⟩ := ctz_spec h0 (mk_lt _)
  have e : lst (hi n k) = ctz 64 (hi n k) := by unfold lst; rw [if_neg h0]
  rw [e]
  refine ⟨h1, h2, h3, ?_, fun x hx hlt => ?_⟩
  · have := hi_bit n k (ctz 64 (hi n k)); rw [s2] at this; simp only [Bool.true_eq, Bool.and_eq_true] at this; exact this.2.1
  · have h4 := s3 x hlt
    have := hi_bit n k x
    rw [h4, decide_eq_true hx, decide_eq_true (show x < 64 by omega)] at this
    simpa using this.symm
theorem tn_hour {e : Ex} {F u : Int} (h : tn e F u) {k : Nat} (hk : F + 60 * k ≤ u) : k ≤ ((u - F) / 60).toNat ∧ (hM e).testBit ((u - F) / 60).toNat = true := ⟨by omega, h.2.2.1⟩
theorem Hp.hour {e : Ex} {F a p : Int} {k i : Nat} (h : Hp e F a k p) (hki : k ≤ i) (hno : ∀ x, k ≤ x → x < i → (hM e).testBit x = false) : Mp e F a i 0 p := by
  refine ⟨h.ga, fun u hu ht => ?_, ?_⟩
  · have h1 := h.gn u hu ht
    obtain ⟨h2, h3⟩ := tn_hour ht h1
    have : ¬ ((u - F) / 60).toNat < i := fun hl => by rw [hno _ h2 hl] at h3; cases h3
    have := ht.1
    omega
  · rcases h.gp with h | h
    · exact .inl h
    · exact .inr (by omega)
theorem Hp.skip {e : Ex} {F a p : Int} {k i : Nat} (h : Hp e F a k p) (hki : k ≤ i) (hs : F + 60 * i + 60 ≤ a) : Hp e F a (i + 1) p :=
  ⟨h.ga, fun u hu _ => by have := h.ga; omega, h.gp.elim .inl (fun h => .inr (by omega))⟩
theorem Mp.hour {e : Ex} {F a p : Int} {i j : Nat} (h : Mp e F a i j p) (hj : hi (mM e) j = 0) (hj2 : j ≤ 60) : Hp e F a (i + 1) p := by
  refine ⟨h.ga, fun u hu ht => ?_, ?_⟩
  · have h1 := h.gn u hu ht
    by_cases hlt : u < F + 60 * i + 60
    · exfalso
      have h4 := ht.2.2.2
      have e1 : ((u - F) % 60).toNat = (u - F - 60 * i).toNat := by omega
      rw [e1, hi_no (mM_lt e) hj (by omega)] at h4
      cases h4
    · omega
  · rcases h.gp with h | h
    · exact .inl h
    · exact .inr (by omega)
theorem Mp.miss {e : Ex} {F a p : Int} {i j m : Nat} (h : Mp e F a i j p) (hm : j ≤ m) (ht : F + 60 * i + m ≤ a) : Mp e F a i (m + 1) p :=
  ⟨h.ga, fun u hu _ => by have := h.ga; omega, h.gp.elim .inl (fun h => .inr (by omega))⟩
theorem Mp.hit {e : Ex} {F a p : Int} {i j m : Nat} (h : Mp e F a i j p) (hi24 : (hM e).testBit i = true) (hm60 : (mM e).testBit m = true) (hjm : j ≤ m) (hno : ∀ x, j ≤ x → x < m → (mM e).testBit x = false) (ht : a < F + 60 * i + m) :
    (p < F + 60 * i + m ∧ tn e F (F + 60 * i + m) ∧ ∀ u, p < u → u < F + 60 * i + m → ¬ tn e F u) ∧ Mp e F a i (m + 1) (F + 60 * i + m) := by
  have i1 : i < 24 := by rw [hM_bit, Bool.and_eq_true, decide_eq_true_eq] at hi24; exact hi24.2
  have m1 : m < 60 := by rw [mM_bit, Bool.and_eq_true, decide_eq_true_eq] at hm60; exact hm60.2
  refine ⟨⟨?_, ⟨by omega, by omega, ?_, ?_⟩, fun u hu hlt hn => ?_⟩, by omega, fun u hu _ => by omega, .inr (by omega)⟩
  · rcases h.gp with h | h <;> omega
  · rw [show ((F + 60 * i + m - F) / 60).toNat = i by omega]; exact hi24
  · rw [show ((F + 60 * i + m - F) % 60).toNat = m by omega]; exact hm60
  · have h1 := h.gn u hu hn
    have h4 := hn.2.2.2
    rw [show ((u - F) % 60).toNat = (u - F - 60 * i).toNat by omega, hno _ (by omega) (by omega)] at h4
    cases h4
theorem Hp.done {e : Ex} {F a p : Int} {k : Nat} (h : Hp e F a k p) (hk : hi (hM e) k = 0) : ∀ u, p < u → ¬ tn e F u := fun u hu ht => by
  obtain ⟨h2, h3⟩ := tn_hour ht (h.gn u hu ht)
  rw [hi_no (hM_lt e) hk h2] at h3
  cases h3
/-- which tick comes next, of a day's -/
def TG (e : Ex) (F a p t : Int) : Prop := a < t ∧ p < t ∧ tn e F t ∧ ∀ u, p < u → u < t → ¬ tn e F u
def TS (e : Ex) (F p : Int) : Prop := ∀ u, p < u → ¬ tn e F u
end Go.Proofs.YtkkanggkbbmfnaaGreatDoor.Fi
