
/- wheels: ticks, levels, digits, slots -/
import Derived.Test.YtcafiehlhdoibaaWh2
import Derived.Test.YtcafiehlhdoibaaWhLib
import Derived.IntWalk
import Derived.Lib.Hide
namespace Go.Proofs.Ytcafiehlhdoibaa.Wh
open Go.RowKit Go.Lib Go.Sort Go.Maps Hp Ht
set_option linter.unusedVariables false
set_option maxRecDepth 20000

/-- a number that may be -/
def I64 (x : Int) : Prop := -9223372036854775808 ≤ x ∧ x ≤ 9223372036854775807
theorem isTick_any (t : Int) (w : World) : Calls Try.prog 23 #[.int .i64 t] w fun e w' => e = .returned (.bool (decide (0 ≤ t) && decide (t ≤ MT))) ∧ w' = w := by
  unfold MT
  by_cases h1 : 0 ≤ t
  · by_cases h2 : t ≤ 1099511627776
    · go_enter Try.func23, Try.ntmps23
      go_wp2_with fail
      go_ret
      exact ⟨by simp; omega, rfl⟩
    · go_enter Try.func23, Try.ntmps23
      go_wp2_with fail
      go_ret
      exact ⟨by simp; omega, rfl⟩
  · go_enter Try.func23, Try.ntmps23
    go_wp2_with fail
    go_ret
    exact ⟨by simp; omega, rfl⟩
theorem xor64 (a b : Nat) (ha : a < 2 ^ 42) (hb : b < 2 ^ 42) : Go.bits .xor .i64 (a : Int) (b : Int) = ((a ^^^ b : Nat) : Int) := by
  have hx : a ^^^ b < 2 ^ 42 := Nat.xor_lt_two_pow ha hb
  show IntKind.i64.wrap ((BitVec.ofInt 64 (a : Int) ^^^ BitVec.ofInt 64 (b : Int)).toNat : Int) = _
  have h64 : (2 : Nat) ^ 42 < 2 ^ 64 := by decide
  have e : ∀ x : Nat, x < 2 ^ 42 → (BitVec.ofInt 64 (x : Int)).toNat = x := fun x hx => by
    rw [BitVec.ofInt_natCast, BitVec.toNat_ofNat]
    exact Nat.mod_eq_of_lt (Nat.lt_trans hx h64)
  rw [BitVec.toNat_xor, e a ha, e b hb]
  obtain ⟨X, hX⟩ : ∃ X : Nat, X = a ^^^ b := ⟨_, rfl⟩
  rw [← hX] at hx ⊢
  rw [IntWalk.i64_in] <;> omega
theorem level_any (a b : Nat) (w : World) (ha : a < 2 ^ 42) (hb : b < 2 ^ 42) (hne : a ≠ b) : Calls Try.prog 39 #[.int .i64 ((a : Nat) : Int), .int .i64 ((b : Nat) : Int)] w fun e w' => e = .returned (.int .i64 ((lv a b : Nat) : Int)) ∧ w' = w := by
  have hx := xor64 a b ha hb
  have hx2 : a ^^^ b < 2 ^ 42 := Nat.xor_lt_two_pow ha hb
  have hx0 : a ^^^ b ≠ 0 := fun e => hne ((xor_zero_iff _ _).1 e)
  obtain ⟨h1, h2, h3, h4⟩ := bl_spec hx0 hx2
  have hl : lv a b = (Lib.bitLen (a ^^^ b) - 1) / 6 := rfl
  have hB := Try.bits_Len64 (((a ^^^ b : Nat) : Int)) w (by omega) (by omega)
  rw [Int.toNat_natCast] at hB
  rw [hl]
  obtain ⟨X, hX⟩ : ∃ X : Nat, X = a ^^^ b := ⟨_, rfl⟩
  obtain ⟨L, hL⟩ : ∃ L : Nat, L = Lib.bitLen (a ^^^ b) := ⟨_, rfl⟩
  rw [← hX] at hx hx2 hB
  rw [← hL] at h1 h4 ⊢
  have hL' : Lib.bitLen X = L := by rw [hL, hX]
  rw [hL'] at hB
  clear hX hL hL' h2 h3 hx0 hl
  obtain ⟨M, rfl⟩ : ∃ M, L = M + 1 := ⟨L - 1, by omega⟩
  have hq : ((M : Nat) : Int).tdiv 6 = (((M + 1 - 1) / 6 : Nat) : Int) := by rw [Int.tdiv_eq_ediv_of_nonneg (by omega)]; omega
  have hb2 : (M + 1 - 1) / 6 ≤ 7 := by omega
  have hX4 : ((X : Nat) : Int) ≤ 4398046511103 := by omega
  have hM4 : ((M : Nat) : Int) ≤ 41 := by omega
  obtain ⟨Q, hQ⟩ : ∃ Q : Nat, Q = (M + 1 - 1) / 6 := ⟨_, rfl⟩
  rw [← hQ] at hq hb2 ⊢
  have hQ4 : ((Q : Nat) : Int) ≤ 7 := by omega
  have hw : wrap64 ((M + 1 : Nat) - 1 : Int) = ((M : Nat) : Int) := by unfold wrap64; omega
  have hu : IntKind.u64.wrap ((X : Nat) : Int) = ((X : Nat) : Int) := IntWalk.u64_in _ (by omega)
  have hQ5 : wrap64 ((Q : Nat) : Int) = ((Q : Nat) : Int) := by unfold wrap64; omega
  clear hQ hb2 hx2 ha hb hne h1 h4
  generalize ((M + 1 : Nat) : Int) = L1 at *
  generalize ((M : Nat) : Int) = M1 at *
  generalize ((Q : Nat) : Int) = Q1 at *
  generalize ((X : Nat) : Int) = X1 at *
  generalize ((a : Nat) : Int) = a1 at *
  generalize ((b : Nat) : Int) = b1 at *
  go_enter Try.func39, Try.ntmps39
  go_wp2_with fail
  refine hB.mono ?_
  rintro e w1 ⟨rfl, rfl⟩
  go_wp2_with fail
  go_ret
  exact ⟨by simp_all, rfl⟩
theorem digit_any (t l : Nat) (w : World) (ht : t < 2 ^ 42) (hl : l < 7) : Calls Try.prog 40 #[.int .i64 ((t : Nat) : Int), .int .i64 ((l : Nat) : Int)] w fun e w' => e = .returned (.int .i64 ((dg t l : Nat) : Int)) ∧ w' = w := by
  have e1 : ((t : Nat) : Int) / 2 ^ (((l : Nat) : Int) * 6).toNat = ((t / 64 ^ l : Nat) : Int) := by
    rw [pow64]
    have : (((l : Nat) : Int) * 6).toNat = 6 * l := by omega
    rw [this]
    norm_cast
  have e2 : ((t / 64 ^ l : Nat) : Int).tmod 64 = ((dg t l : Nat) : Int) := by
    unfold dg
    generalize t / 64 ^ l = X
    rw [Int.tmod_eq_emod_of_nonneg (by omega)]; omega
  have e3 : t / 64 ^ l ≤ t := Nat.div_le_self _ _
  have e4 := dg_lt t l
  have hw3 : wrap64 ((dg t l : Nat) : Int) = ((dg t l : Nat) : Int) := by unfold wrap64; omega
  have HH := Lib.hid (And.intro e2 e3)
  obtain ⟨X, hX⟩ : ∃ X : Nat, X = t / 64 ^ l := ⟨_, rfl⟩
  rw [← hX] at e1 e2 e3
  obtain ⟨D, hD⟩ : ∃ D : Nat, D = dg t l := ⟨_, rfl⟩
  rw [← hD] at e2 e4 hw3 ⊢
  clear hX hD HH
  have hw4 : IntKind.i64.wrap ((X : Nat) : Int) = ((X : Nat) : Int) := by rw [IntWalk.i64_in] <;> omega
  go_enter Try.func40, Try.ntmps40
  go_wp2_with fail
  go_ret
  exact ⟨by simp_all, rfl⟩
end Go.Proofs.Ytcafiehlhdoibaa.Wh
