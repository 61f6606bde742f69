/- the reader's contracts: octet, Num -/
import Derived.Test.YtfbohbcokggmpaaRd
namespace Go.Proofs.Ytfbohbcokggmpaa.Oc
open Go.RowKit Go.Lib

theorem octet_err (rb : Nat) (l : List UInt8) (er : Int) (w : World) (h : Rd w rb l er) (he : er ≠ 0) :
    Calls Try.prog 25 #[.pointer (some ⟨rb, 0, none⟩)] w fun e w' => e = .returned (.tuple #[.int .u8 0, .bool false]) ∧ w = w' := by
  have hne : (er != 0) = true := by simpa using he
  go_enter Try.func25, Try.ntmps25
  go_wp2_with (go_at_call 20; refine (err_any rb l er _ h).mono ?_; rintro e w' ⟨rfl, rfl⟩)
  go_ret2
  exact ⟨rfl, rfl⟩

theorem octet_end (rb : Nat) (w : World) (h : Rd w rb [] 0) :
    Calls Try.prog 25 #[.pointer (some ⟨rb, 0, none⟩)] w fun e w' => e = .returned (.tuple #[.int .u8 0, .bool false]) ∧ Rd w' rb [] 4 ∧ At rb w w' := by
  obtain ⟨a, cap, hp, _⟩ := id h
  have hc := (two_cell0 hp).1
  simp only [List.length_nil] at hc
  clear hp
  go_enter Try.func25, Try.ntmps25
  go_wp2_with (first | (go_at_call 20; refine (err_any rb [] 0 _ h).mono ?_; rintro e w' ⟨rfl, rfl⟩) | (go_at_call 26; refine (fail_any rb [] 0 4 _ h).mono ?_; rintro e w' ⟨rfl, hr, hA⟩))
  go_ret2
  exact ⟨rfl, hr, hA⟩

theorem lf_tail {w : World} {g o : Nat} {c : UInt8} {t : List UInt8} (h : ∀ j u, (byteCells (c :: t))[j]? = some u → w.cell? ⟨g, o + j, none⟩ = some u) :
    ∀ j u, (byteCells t)[j]? = some u → w.cell? ⟨g, o + 1 + j, none⟩ = some u := fun j u hu => by
  have := h (j + 1) u (by simpa [byteCells] using hu)
  rwa [show o + (j + 1) = o + 1 + j by omega] at this

theorem octet_more (rb : Nat) (c : UInt8) (t : List UInt8) (w : World) (h : Rd w rb (c :: t) 0) :
    Calls Try.prog 25 #[.pointer (some ⟨rb, 0, none⟩)] w fun e w' => e = .returned (.tuple #[.int .u8 c.toNat, .bool true]) ∧ Rd w' rb t 0 ∧ At rb w w' := by
  have hlen := h.len
  obtain ⟨a, cap, hp, ⟨_, h1, _⟩ | ⟨g, o, rfl, h3, h4, h5, h6⟩⟩ := id h
  · cases h1
  have hc := two_cell0 hp
  have hb : w.cell? ⟨g, o, none⟩ = some (.int .u8 c.toNat) := h6 0 _ (by simp [byteCells])
  simp only [List.length_cons, maxLen] at hc h3 h4 hlen
  have hA : ∀ u, At rb w (w.setCell ⟨rb, 0, none⟩ u) := fun u => (At.refl _ _).setCell _ _
  by_cases hcap : cap = 1
  · subst hcap
    have ht : t = [] := List.length_eq_zero_iff.1 (by omega)
    subst ht
    have hR : Rd (w.setCell ⟨rb, 0, none⟩ (.slice (some ⟨g, o, none⟩) 0 0)) rb [] 0 :=
      ⟨_, 0, two_setCell0 hp, .inr ⟨g, o, rfl, by simp, by simp, h5, fun j u hu => by simp [byteCells] at hu⟩⟩
    have HH := Lib.hid (And.intro hR (hA (.slice (some ⟨g, o, none⟩) 0 0)))
    clear hR hA hp h6
    simp only [List.length_nil, Nat.zero_add] at hc
    go_enter Try.func25, Try.ntmps25
    go_wp2_with (first | (go_at_call 20; refine (err_any rb _ 0 _ h).mono ?_; rintro e w' ⟨rfl, rfl⟩))
    go_ret2
    exact ⟨rfl, HH.out⟩
  · have hR : Rd (w.setCell ⟨rb, 0, none⟩ (.slice (some ⟨g, o + 1, none⟩) t.length (cap - 1))) rb t 0 :=
      ⟨_, cap - 1, two_setCell0 hp, .inr ⟨g, o + 1, rfl, by omega, by simp [maxLen]; omega, h5, fun j u hu => ((hA _).cell h5).trans (lf_tail h6 j u hu)⟩⟩
    have HH := Lib.hid (And.intro hR (hA (.slice (some ⟨g, o + 1, none⟩) t.length (cap - 1))))
    clear hR hA hp h6
    go_enter Try.func25, Try.ntmps25
    go_wp2_with (first | (go_at_call 20; refine (err_any rb _ 0 _ h).mono ?_; rintro e w' ⟨rfl, rfl⟩))
    go_ret2
    exact ⟨rfl, HH.out⟩

/-! ### Num -/
/-- what Num makes of the bytes, from the k-th on: the number, what is left, the error -/
def dec (k X : Nat) : List UInt8 → Nat × List UInt8 × Int
  | [] => (0, [], 4)
  | b :: t => if (k = 9 ∧ 1 < b.toNat) ∨ (0 < k ∧ b.toNat = 0) then (0, [], 2) else
      if b.toNat < 128 then (X + b.toNat * 128 ^ k, t, 0) else dec (k + 1) (X + (b.toNat - 128) * 128 ^ k) t

theorem dec_bad {k X : Nat} {c : UInt8} {t : List UInt8} (h : (k = 9 ∧ 1 < c.toNat) ∨ (0 < k ∧ c.toNat = 0)) : dec k X (c :: t) = (0, [], 2) := by
  simp only [dec]; rw [if_pos h]
theorem dec_last {k X : Nat} {c : UInt8} {t : List UInt8} (h : ¬ ((k = 9 ∧ 1 < c.toNat) ∨ (0 < k ∧ c.toNat = 0))) (hc : c.toNat < 128) : dec k X (c :: t) = (X + c.toNat % 128 * 128 ^ k, t, 0) := by
  simp only [dec]; rw [if_neg h, if_pos hc, Nat.mod_eq_of_lt hc]
theorem dec_more {k X : Nat} {c : UInt8} {t : List UInt8} (h : ¬ ((k = 9 ∧ 1 < c.toNat) ∨ (0 < k ∧ c.toNat = 0))) (hc : ¬ c.toNat < 128) : dec k X (c :: t) = dec (k + 1) (X + c.toNat % 128 * 128 ^ k) t := by
  have := c.toNat_lt
  simp only [dec]; rw [if_neg h, if_neg hc, show c.toNat % 128 = c.toNat - 128 by omega]

theorem pow_7 (k : Nat) : (2 : Int) ^ (7 * k) = ((128 ^ k : Nat) : Int) := by
  have h : (2 : Nat) ^ (7 * k) = 128 ^ k := by rw [Nat.pow_mul]
  rw [← h]; simp
theorem numbits {k X c : Nat} (hk : k ≤ 9) (hX : X < 128 ^ k) (hc : c < 256) (h9 : k = 9 → c ≤ 1) :
    bits .or .u64 (X : Int) (IntKind.u64.wrap (IntKind.u64.wrap (bits .andNot .u8 (c : Int) 128) * 2 ^ (7 * k))) = ((X + c % 128 * 128 ^ k : Nat) : Int) := by
  have e0 : bits .andNot .u8 (c : Int) 128 = ((c % 128 : Nat) : Int) := by
    rw [u8_andNot _ _ (by omega) (by omega) (by decide) (by decide)]
    simp only [Int.toNat_natCast]
    exact congrArg Nat.cast (Nat.and_two_pow_sub_one_eq_mod c 7)
  have hP : 128 ^ k ≤ 128 ^ 9 := Nat.pow_le_pow_right (by decide) hk
  have hlt : c % 128 * 128 ^ k < 18446744073709551616 := by
    by_cases h : k = 9
    · subst h; have := h9 rfl; have : c % 128 ≤ 1 := by omega
      exact Nat.lt_of_le_of_lt (Nat.mul_le_mul_right _ this) (by decide)
    · have h8 : 128 ^ k ≤ 128 ^ 8 := Nat.pow_le_pow_right (by decide) (by omega)
      exact Nat.lt_of_le_of_lt (Nat.mul_le_mul (show c % 128 ≤ 127 by omega) h8) (by decide)
  have hXl : X < 18446744073709551616 := Nat.lt_of_lt_of_le hX (Nat.le_trans hP (by decide))
  have e1 : IntKind.u64.wrap ((c % 128 : Nat) : Int) = ((c % 128 : Nat) : Int) := u64_wrap_id _ (by omega) (by omega)
  rw [e0, e1, pow_7, ← Int.natCast_mul, u64_wrap_id _ (by omega) (by omega)]
  rw [bits_join_low .u64 64 (by decide) wraps_u64 (7 * k) (X : Int) ((c % 128 * 128 ^ k : Nat) : Int) (by omega) (by rw [pow_7]; omega) (by omega) (by omega) (by rw [pow_7, ← Int.natCast_emod, Nat.mul_mod_left]; rfl) (by omega)]
  omega
theorem numbits_lt {k X c : Nat} (hX : X < 128 ^ k) : X + c % 128 * 128 ^ k < 128 ^ (k + 1) := by
  rw [Nat.pow_succ]
  have : c % 128 * 128 ^ k ≤ 127 * 128 ^ k := Nat.mul_le_mul_right _ (by omega)
  omega
theorem numbits0 {X c : Nat} (hX : X < 128 ^ 0) (hc : c < 256) :
    bits .or .u64 (X : Int) (IntKind.u64.wrap (IntKind.u64.wrap (bits .andNot .u8 (c : Int) 128))) = ((X + c % 128 * 128 ^ 0 : Nat) : Int) := by
  have := numbits (k := 0) (by omega) hX hc (by omega)
  simpa using this
theorem numbits9 {X c : Nat} (hX : X < 128 ^ 9) (hc : c ≤ 1) :
    bits .or .u64 (X : Int) (IntKind.u64.wrap (IntKind.u64.wrap (bits .andNot .u8 (c : Int) 128) * 9223372036854775808)) = ((X + c % 128 * 128 ^ 9 : Nat) : Int) := by
  have := numbits (k := 9) (by omega) hX (show c < 256 by omega) (by omega)
  simpa using this

theorem num_err (rb : Nat) (l : List UInt8) (er : Int) (w : World) (h : Rd w rb l er) (he : er ≠ 0) :
    Calls Try.prog 16 #[.pointer (some ⟨rb, 0, none⟩)] w fun e w' => e = .returned (.int .u64 0) ∧ w = w' := by
  go_enter Try.func16, Try.ntmps16
  go_wp2
  refine wp_loop_rounds 1 ?_
  rw [rounds_succ]
  go_wp2_with (go_at_call 25; refine (octet_err rb l er _ h he).mono ?_; rintro e w' ⟨rfl, rfl⟩)
  go_ret
  exact ⟨rfl, rfl⟩

set_option maxRecDepth 20000 in
set_option maxHeartbeats 1000000 in
theorem num_ok (rb : Nat) (l : List UInt8) (w : World) (h : Rd w rb l 0) :
    Calls Try.prog 16 #[.pointer (some ⟨rb, 0, none⟩)] w fun e w' => e = .returned (.int .u64 (dec 0 0 l).1) ∧ Rd w' rb (dec 0 0 l).2.1 (dec 0 0 l).2.2 ∧ At rb w w' := by
  obtain ⟨D, hD⟩ : ∃ D, D = dec 0 0 l := ⟨_, rfl⟩
  rw [← hD]
  obtain ⟨n, r, er⟩ := D
  simp only
  have HD0 := Lib.hid hD
  clear hD
  go_enter Try.func16, Try.ntmps16
  go_wp2
  go_loopw [3, 4] (fun x i wr => ∃ (k X : Nat) (t : List UInt8), k ≤ 9 ∧ X < 128 ^ k ∧ i = .int .i64 k ∧ x = .int .u64 X ∧ Rd wr rb t 0 ∧ (n, r, er) = dec k X t ∧ At rb w wr) (fun _ i _ => 10 - (intOf i).toNat)
  case atStart => exact ⟨0, 0, l, by omega, by decide, rfl, rfl, h, HD0.out, At.refl _ _⟩
  case round =>
    obtain ⟨k, X, t, hk, hX, rfl, rfl, hr, hd, hA⟩ := hrel
    have HD := Lib.hid (And.intro hX hd)
    clear hX hd
    cases t with
    | nil =>
      obtain ⟨_, hd⟩ := HD.out
      simp only [dec, Prod.mk.injEq] at hd
      obtain ⟨rfl, rfl, rfl⟩ := hd
      clear HD0 HD
      go_wp2_with (go_at_call 25; refine (octet_end rb _ hr).mono ?_; rintro e w' ⟨rfl, hr', hA'⟩)
      go_ret
      exact ⟨rfl, hr', hA.trans hA'⟩
    | cons c t =>
      have hc := c.toNat_lt
      by_cases hbad : (k = 9 ∧ 1 < c.toNat) ∨ (0 < k ∧ c.toNat = 0)
      · have HE : (n, r, er) = (0, [], 2) := HD.out.2.trans (dec_bad hbad)
        simp only [Prod.mk.injEq] at HE
        obtain ⟨rfl, rfl, rfl⟩ := HE
        clear HD HD0
        by_cases h1 : k = 9 ∧ 1 < c.toNat
        · obtain ⟨rfl, hc1⟩ := h1
          clear hbad
          go_wp2_with (first | (go_at_call 25; refine (octet_more rb c t _ hr).mono ?_; rintro e w' ⟨rfl, hr', hA'⟩) | (go_at_call 26; refine (fail_any rb t 0 2 _ hr').mono ?_; rintro e w'' ⟨rfl, hr'', hA''⟩))
          go_ret
          exact ⟨rfl, hr'', (hA.trans hA').trans hA''⟩
        · have h2 : 0 < k ∧ c.toNat = 0 := by omega
          obtain ⟨hk0, hc0⟩ := h2
          have hc1 : ((c.toNat : Int) == 0) = true := by simp [hc0]
          have hc2 : (c.toNat : Int) ≤ 0 := by omega
          clear hbad h1 hc0
          go_wp2_with (first | (go_at_call 25; refine (octet_more rb c t _ hr).mono ?_; rintro e w' ⟨rfl, hr', hA'⟩) | (go_at_call 26; refine (fail_any rb t 0 2 _ hr').mono ?_; rintro e w'' ⟨rfl, hr'', hA''⟩))
          all_goals go_ret
          all_goals exact ⟨rfl, hr'', (hA.trans hA').trans hA''⟩
      · have hlast := Lib.hid (fun h => HD.out.2.trans (dec_last hbad h))
        have hmore := Lib.hid (fun h => HD.out.2.trans (dec_more hbad h))
        have hX := Lib.hid HD.out.1
        have hb1 : k = 9 → c.toNat ≤ 1 := fun h => by omega
        have hb2 : 0 < k → c.toNat ≠ 0 := fun h => by omega
        have HB := Lib.hid (And.intro hb1 hb2)
        have hk9' : k = 9 → ¬ 128 ≤ c.toNat := fun h => by have := hb1 h; omega
        have HK := Lib.hid hk9'
        clear hbad hb1 hb2 HD hk9'
        by_cases hk0 : k = 0
        · subst hk0
          clear HB
          by_cases hbig : c.toNat < 128
          · go_wp2_with (go_at_call 25; refine (octet_more rb c t _ hr).mono ?_; rintro e w' ⟨rfl, hr', hA'⟩)
            go_ret
            have hl := hlast.out hbig
            simp only [Prod.mk.injEq] at hl
            obtain ⟨rfl, rfl, rfl⟩ := hl
            exact ⟨congrArg (fun z => Ending.returned (.int .u64 z)) (numbits0 hX.out hc), hr', hA.trans hA'⟩
          · go_wp2_with (go_at_call 25; refine (octet_more rb c t _ hr).mono ?_; rintro e w' ⟨rfl, hr', hA'⟩)
            go_roundw
            case rel => exact ⟨0 + 1, _, t, by omega, numbits_lt hX.out, by go_num, by rw [numbits0 hX.out hc], hr', hmore.out hbig, hA.trans hA'⟩
            case measure => simp [intOf]
        · have h0 : 0 < k := by omega
          have hcne : c.toNat ≠ 0 := HB.out.2 h0
          have hcpos : 0 < c.toNat := by omega
          clear hcne hk0
          by_cases hk9 : k = 9
          · have hc1 : c.toNat ≤ 1 := HB.out.1 hk9
            subst hk9
            have hz0 : ((c.toNat : Int) == 0) = false := by simp; omega
            clear HB
            go_wp2_with (go_at_call 25; refine (octet_more rb c t _ hr).mono ?_; rintro e w' ⟨rfl, hr', hA'⟩)
            go_ret
            have hl := hlast.out (by omega)
            simp only [Prod.mk.injEq] at hl
            obtain ⟨rfl, rfl, rfl⟩ := hl
            exact ⟨congrArg (fun z => Ending.returned (.int .u64 z)) (numbits9 hX.out hc1), hr', hA.trans hA'⟩
          · have hlt : k < 9 := by omega
            clear hk9 HB
            by_cases hbig : c.toNat < 128
            · go_wp2_with (go_at_call 25; refine (octet_more rb c t _ hr).mono ?_; rintro e w' ⟨rfl, hr', hA'⟩)
              go_ret
              have hl := hlast.out hbig
              simp only [Prod.mk.injEq] at hl
              obtain ⟨rfl, rfl, rfl⟩ := hl
              exact ⟨congrArg (fun z => Ending.returned (.int .u64 z)) (numbits hk hX.out hc (by omega)), hr', hA.trans hA'⟩
            · go_wp2_with (go_at_call 25; refine (octet_more rb c t _ hr).mono ?_; rintro e w' ⟨rfl, hr', hA'⟩)
              go_roundw
              case rel => exact ⟨k + 1, _, t, by omega, numbits_lt hX.out, by go_num, by rw [numbits hk hX.out hc (by omega)], hr', hmore.out hbig, hA.trans hA'⟩
              case measure => simp [intOf]; omega
end Go.Proofs.Ytfbohbcokggmpaa.Oc
