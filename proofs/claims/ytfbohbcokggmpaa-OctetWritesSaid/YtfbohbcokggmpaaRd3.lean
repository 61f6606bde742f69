/- the reader's contracts: Int, Flag, Count, Text, Read -/
import Derived.Test.YtfbohbcokggmpaaRd2
namespace Go.Proofs.Ytfbohbcokggmpaa.Oc
open Go.RowKit Go.Lib

theorem dec_u64 : ∀ (l : List UInt8) (k X : Nat), k ≤ 9 → X < 128 ^ k → U64 (dec k X l).1
  | [], k, X, _, _ => by simp only [dec]; unfold U64; decide
  | b :: t, k, X, hk, hX => by
    by_cases h : (k = 9 ∧ 1 < b.toNat) ∨ (0 < k ∧ b.toNat = 0)
    · rw [dec_bad h]; unfold U64; decide
    · by_cases hb : b.toNat < 128
      · rw [dec_last h hb]
        by_cases h9 : k = 9
        · subst h9
          have : b.toNat % 128 ≤ 1 := by omega
          have h2 : b.toNat % 128 * 128 ^ 9 ≤ 1 * 128 ^ 9 := Nat.mul_le_mul_right _ this
          show X + _ < 18446744073709551616
          omega
        · have h1 := numbits_lt (c := b.toNat) hX
          have h2 : 128 ^ (k + 1) ≤ 128 ^ 9 := Nat.pow_le_pow_right (by decide) (by omega)
          show X + _ < 18446744073709551616
          omega
      · rw [dec_more h hb]
        exact dec_u64 t (k + 1) _ (by omega) (numbits_lt hX)

/-- a signed number out of a number -/
def unzig (n : Nat) : Int := if n % 2 = 0 then ((n / 2 : Nat) : Int) else -((n / 2 : Nat) : Int) - 1
theorem unzig_zig (x : Int) : unzig (zigzag x) = x := by
  unfold unzig zigzag
  split <;> split <;> omega

theorem xor_id (x : Nat) (hx : x < 9223372036854775808) : bits .xor .i64 (x : Int) 0 = (x : Int) := by
  show IntKind.i64.wrap ((BitVec.ofInt 64 (x : Int) ^^^ BitVec.ofInt 64 0).toNat : Int) = _
  have h2 : (BitVec.ofInt 64 (x : Int)).toNat = x := by
    rw [BitVec.ofInt_natCast, BitVec.toNat_ofNat]; exact Nat.mod_eq_of_lt (by omega)
  have h3 : (BitVec.ofInt 64 0).toNat = 0 := by decide
  rw [BitVec.toNat_xor, h2, h3, Nat.xor_zero, IntKind.wrap_i64]
  omega
theorem xor_not (x : Nat) (hx : x < 9223372036854775808) : bits .xor .i64 (x : Int) (-1) = -(x : Int) - 1 := by
  show IntKind.i64.wrap ((BitVec.ofInt 64 (x : Int) ^^^ BitVec.ofInt 64 (-1)).toNat : Int) = _
  have h1 : (BitVec.ofInt 64 (-1)).toNat = 2 ^ 64 - 1 := by decide
  have h2 : (BitVec.ofInt 64 (x : Int)).toNat = x := by
    rw [BitVec.ofInt_natCast, BitVec.toNat_ofNat]; exact Nat.mod_eq_of_lt (by omega)
  rw [BitVec.toNat_xor, h1, h2, Nat.xor_comm, xor_ones64 x (by omega), IntKind.wrap_i64]
  omega
theorem unz {n : Nat} (h : U64 n) : bits .xor .i64 (wrap64 ((n : Int) / 2)) (wrap64 (-wrap64 (bits .and .u64 (n : Int) 1))) = unzig n := by
  unfold U64 at h
  rw [u64_and1 _ (by omega) (by omega)]
  have e : wrap64 ((n : Int) / 2) = ((n / 2 : Nat) : Int) := by unfold wrap64; omega
  rw [e]
  unfold unzig
  by_cases h2 : n % 2 = 0
  · rw [if_pos h2, show wrap64 (-wrap64 ((n : Int) % 2)) = 0 by unfold wrap64; omega, xor_id _ (by omega)]
  · rw [if_neg h2, show wrap64 (-wrap64 ((n : Int) % 2)) = -1 by unfold wrap64; omega, xor_not _ (by omega)]

set_option maxHeartbeats 1000000 in
theorem rint_err (rb : Nat) (l : List UInt8) (er : Int) (w : World) (h : Rd w rb l er) (he : er ≠ 0) :
    Calls Try.prog 17 #[.pointer (some ⟨rb, 0, none⟩)] w fun e w' => e = .returned (.int .i64 0) ∧ w = w' := by
  have H := Lib.hid (num_err rb l er w h he)
  clear he h
  go_enter Try.func17, Try.ntmps17
  go_wp2_with (go_at_call 16; refine H.out.mono ?_; rintro e w' ⟨rfl, rfl⟩)
  go_ret
  exact ⟨congrArg (fun z => Ending.returned (.int .i64 z)) (by have := unz (n := 0) (by unfold U64; decide); simpa [unzig, wrap64] using this), rfl⟩
theorem rint_ok (rb : Nat) (l : List UInt8) (w : World) (h : Rd w rb l 0) :
    Calls Try.prog 17 #[.pointer (some ⟨rb, 0, none⟩)] w fun e w' => e = .returned (.int .i64 (unzig (dec 0 0 l).1)) ∧ Rd w' rb (dec 0 0 l).2.1 (dec 0 0 l).2.2 ∧ At rb w w' := by
  have H := Lib.hid (num_ok rb l w h)
  have hu := dec_u64 l 0 0 (by omega) (by decide)
  obtain ⟨D, hD⟩ : ∃ D, D = dec 0 0 l := ⟨_, rfl⟩
  rw [← hD] at H hu ⊢
  clear hD h
  obtain ⟨n, r, er⟩ := D
  simp only at H hu ⊢
  go_enter Try.func17, Try.ntmps17
  go_wp2_with (go_at_call 16; refine H.out.mono ?_; rintro e w' ⟨rfl, hr, hA⟩)
  go_ret
  exact ⟨congrArg (fun z => Ending.returned (.int .i64 z)) (unz hu), hr, hA⟩

/-! ### Flag -/
theorem flag_err (rb : Nat) (l : List UInt8) (er : Int) (w : World) (h : Rd w rb l er) (he : er ≠ 0) :
    Calls Try.prog 18 #[.pointer (some ⟨rb, 0, none⟩)] w fun e w' => e = .returned (.bool false) ∧ w = w' := by
  have H := Lib.hid (octet_err rb l er w h he)
  clear he h
  go_enter Try.func18, Try.ntmps18
  go_wp2_with (go_at_call 25; refine H.out.mono ?_; rintro e w' ⟨rfl, rfl⟩)
  go_ret
  exact ⟨rfl, rfl⟩
theorem flag_end (rb : Nat) (w : World) (h : Rd w rb [] 0) :
    Calls Try.prog 18 #[.pointer (some ⟨rb, 0, none⟩)] w fun e w' => e = .returned (.bool false) ∧ Rd w' rb [] 4 ∧ At rb w w' := by
  have H := Lib.hid (octet_end rb w h)
  clear h
  go_enter Try.func18, Try.ntmps18
  go_wp2_with (go_at_call 25; refine H.out.mono ?_; rintro e w' ⟨rfl, hr, hA⟩)
  go_ret
  exact ⟨rfl, hr, hA⟩
theorem flag_bad (rb : Nat) (c : UInt8) (t : List UInt8) (w : World) (h : Rd w rb (c :: t) 0) (hc : 1 < c.toNat) :
    Calls Try.prog 18 #[.pointer (some ⟨rb, 0, none⟩)] w fun e w' => e = .returned (.bool false) ∧ Rd w' rb [] 2 ∧ At rb w w' := by
  have H := Lib.hid (octet_more rb c t w h)
  clear h
  go_enter Try.func18, Try.ntmps18
  go_wp2_with (first | (go_at_call 25; refine H.out.mono ?_; rintro e w' ⟨rfl, hr, hA⟩) | (go_at_call 26; refine (fail_any rb t 0 2 _ hr).mono ?_; rintro e w'' ⟨rfl, hr', hA'⟩))
  go_ret
  exact ⟨rfl, hr', hA.trans hA'⟩
theorem flag_ok (rb : Nat) (c : UInt8) (t : List UInt8) (w : World) (h : Rd w rb (c :: t) 0) (hc : c.toNat ≤ 1) :
    Calls Try.prog 18 #[.pointer (some ⟨rb, 0, none⟩)] w fun e w' => e = .returned (.bool ((c.toNat : Int) == 1)) ∧ Rd w' rb t 0 ∧ At rb w w' := by
  have H := Lib.hid (octet_more rb c t w h)
  clear h
  go_enter Try.func18, Try.ntmps18
  go_wp2_with (first | (go_at_call 25; refine H.out.mono ?_; rintro e w' ⟨rfl, hr, hA⟩))
  go_ret
  exact ⟨rfl, hr, hA⟩

/-! ### Count -/
theorem dec_zero : ∀ (l : List UInt8) (k X : Nat), (dec k X l).2.2 ≠ 0 → (dec k X l).1 = 0 ∧ (dec k X l).2.1 = []
  | [], k, X, _ => ⟨rfl, rfl⟩
  | b :: t, k, X, h => by
    by_cases h1 : (k = 9 ∧ 1 < b.toNat) ∨ (0 < k ∧ b.toNat = 0)
    · rw [dec_bad h1]; exact ⟨rfl, rfl⟩
    · by_cases hb : b.toNat < 128
      · rw [dec_last h1 hb] at h; exact absurd rfl h
      · rw [dec_more h1 hb] at h ⊢
        exact dec_zero t (k + 1) _ h
theorem dec_len : ∀ (l : List UInt8) (k X : Nat), (dec k X l).2.1.length ≤ l.length
  | [], k, X => by simp [dec]
  | b :: t, k, X => by
    by_cases h1 : (k = 9 ∧ 1 < b.toNat) ∨ (0 < k ∧ b.toNat = 0)
    · rw [dec_bad h1]; simp
    · by_cases hb : b.toNat < 128
      · rw [dec_last h1 hb]; simp
      · rw [dec_more h1 hb]
        have := dec_len t (k + 1) (X + b.toNat % 128 * 128 ^ k)
        simp; omega

/-- what Count makes of the bytes -/
def cnt (m : Nat) (l : List UInt8) : Nat × List UInt8 × Int := if (dec 0 0 l).1 ≤ m then dec 0 0 l else (0, [], 15)
theorem cnt_le (m : Nat) (l : List UInt8) : (cnt m l).1 ≤ m := by unfold cnt; split <;> simp_all
theorem cnt_zero (m : Nat) (l : List UInt8) (h : (cnt m l).2.2 ≠ 0) : (cnt m l).1 = 0 ∧ (cnt m l).2.1 = [] := by
  unfold cnt at h ⊢
  by_cases h1 : (dec 0 0 l).1 ≤ m
  · rw [if_pos h1] at h ⊢; exact dec_zero l 0 0 h
  · rw [if_neg h1]; exact ⟨rfl, rfl⟩

set_option maxHeartbeats 1000000 in
theorem count_err (rb : Nat) (l : List UInt8) (er : Int) (m : Nat) (w : World) (h : Rd w rb l er) (he : er ≠ 0) (hm2 : m ≤ 1000000000000) :
    Calls Try.prog 27 #[.pointer (some ⟨rb, 0, none⟩), .int .i64 m] w fun e w' => e = .returned (.int .i64 0) ∧ w = w' := by
  have H := Lib.hid (num_err rb l er w h he)
  clear he h
  go_enter Try.func27, Try.ntmps27
  go_wp2_with (go_at_call 16; refine H.out.mono ?_; rintro e w' ⟨rfl, rfl⟩)
  go_ret
  exact ⟨rfl, rfl⟩
set_option maxHeartbeats 1000000 in
theorem count_ok (rb : Nat) (l : List UInt8) (m : Nat) (w : World) (h : Rd w rb l 0) (hm2 : m ≤ 1000000000000) :
    Calls Try.prog 27 #[.pointer (some ⟨rb, 0, none⟩), .int .i64 m] w fun e w' => e = .returned (.int .i64 (cnt m l).1) ∧ Rd w' rb (cnt m l).2.1 (cnt m l).2.2 ∧ At rb w w' := by
  have H := Lib.hid (num_ok rb l w h)
  have hz := dec_zero l 0 0
  unfold cnt
  obtain ⟨D, hD⟩ : ∃ D, D = dec 0 0 l := ⟨_, rfl⟩
  rw [← hD] at H hz ⊢
  clear hD h
  obtain ⟨n, r, er⟩ := D
  simp only at H hz ⊢
  by_cases hn : n ≤ m
  · rw [if_pos hn]
    clear hz
    go_enter Try.func27, Try.ntmps27
    go_wp2_with (go_at_call 16; refine H.out.mono ?_; rintro e w' ⟨rfl, hr, hA⟩)
    go_ret
    exact ⟨rfl, hr, hA⟩
  · rw [if_neg hn]
    have he : er = 0 := Classical.byContradiction fun h => by have := (hz h).1; omega
    subst he
    clear hz
    go_enter Try.func27, Try.ntmps27
    go_wp2_with (first | (go_at_call 16; refine H.out.mono ?_; rintro e w' ⟨rfl, hr, hA⟩) | (go_at_call 26; refine (fail_any rb r 0 15 _ hr).mono ?_; rintro e w'' ⟨rfl, hr', hA'⟩))
    go_ret
    exact ⟨rfl, hr', hA.trans hA'⟩
end Go.Proofs.Ytfbohbcokggmpaa.Oc
