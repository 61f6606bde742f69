/- the walk of CrcUnlike -/
import Derived.Test.YtdjondmhckoelaaDoorCr
namespace Go.Proofs.YtdjondmhckoelaaDoor.Cr
open Go.RowKit Go.Lib Go.Proofs.YtdjondmhckoelaaDoor.By

theorem u32_of {a : Int} (h : (Lit.int .u32 a).wf = true) : ∃ n : Nat, a = n ∧ U32 n := by
  have hw : 0 ≤ a ∧ a ≤ 4294967295 := by simpa [Lit.wf, IntKind.min, IntKind.max, IntKind.signed, IntKind.bits] using h
  exact ⟨a.toNat, by omega, by unfold U32; omega⟩
theorem below_two' {w a b : World} (h1 : Below w.heap.size w a) (h2 : Below a.heap.size a b) : Below w.heap.size w b := h1.trans (h2.mono h1.size)
/-- the four bytes as they are laid -/
theorem isB_four (w : World) (x : Nat) (hb : x ≤ 4294967295) : IsB (w.alloc (.cells #[.int .u8 ((x : Int) % 256), .int .u8 ((x : Int) / 256 % 256), .int .u8 ((x : Int) / 65536 % 256), .int .u8 ((x : Int) / 16777216)] 5)) (some ⟨w.heap.size, 0, none⟩) 4 4 (le4 x) := by
  refine ⟨rfl, .inr ⟨_, rfl, by simp, by simp [maxLen], fun j u hu => ?_⟩⟩
  have h0 := byte_nat (n := x % 256) (by omega)
  have h1 := byte_nat (n := x / 256 % 256) (by omega)
  have h2 := byte_nat (n := x / 65536 % 256) (by omega)
  have h3 := byte_nat (n := x / 16777216) (by omega)
  have h4 : x / 16777216 % 256 = x / 16777216 := by omega
  match j, hu with
  | 0, hu | 1, hu | 2, hu | 3, hu => simp [byteCells, le4, h0, h1, h2, h3, h4] at hu; subst hu; simp [Addr.add]

set_option maxHeartbeats 1000000 in
theorem four_any (x : Nat) (w : World) (hx : U32 x) :
    Calls Tryd.prog 11 #[.int .u32 x] w fun e w' => ∃ a c, e = .returned (.slice a 4 c) ∧ IsB w' a 4 c (le4 x) ∧ Below w.heap.size w w' := by
  have hb : x ≤ 4294967295 := by unfold U32 at hx; omega
  clear hx
  go_enter Tryd.func11, Tryd.ntmps11
  go_wp2
  go_ret
  exact ⟨_, _, rfl, isB_four w x hb, (Below.refl _ _).alloc (Nat.le_refl _) _⟩

theorem bool_eq {m n : Nat} {x y : Nat} (h : m = n ↔ x = y) : (((m : Int) == n) == ((x : Int) == y)) = true := by
  by_cases e : x = y
  · have e' := h.2 e
    subst e e'; simp
  · have e' : ¬ m = n := fun k => e (h.1 k)
    have h1 : ((m : Int) == n) = false := by simp; omega
    have h2 : ((x : Int) == y) = false := by simp; omega
    rw [h1, h2]; rfl

set_option maxHeartbeats 2000000 in
theorem unlike_walk (a : Option Addr) (n c : Nat) (l : List UInt8) (x y : Nat) (w : World) (h : IsB w a n c l) (hx : U32 x) (hy : U32 y) (hn : Nibs w) :
    Calls Tryd.prog 6 #[.slice a n c, .int .u32 x, .int .u32 y] w fun e w' => e = .returned (.bool true) ∧ Below w.heap.size w w' := by
  have m1 := h.le
  unfold maxLen at m1
  obtain rfl : l.length = n := h.1
  have HL := Lib.hid (lives_any w hn)
  have HN := Lib.hid hn
  have H1 := Lib.hid h
  have HX := Lib.hid hx
  have HY := Lib.hid hy
  clear h hn hx hy
  by_cases b1 : 300 < l.length
  · go_enter Tryd.func6, Tryd.ntmps6
    go_wp2_with fail
    refine HL.out.mono ?_
    rintro e wa ⟨rfl, hb⟩
    have HL2 := Lib.hid (lives_any wa (HN.out.old hb))
    have HB := Lib.hid hb
    clear hb
    go_wp2_with fail
    refine HL2.out.mono ?_
    rintro e wb ⟨rfl, hb2⟩
    go_wp2
    go_ret
    exact ⟨rfl, below_two' HB.out hb2⟩
  · go_enter Tryd.func6, Tryd.ntmps6
    go_wp2_with fail
    refine HL.out.mono ?_
    rintro e wa ⟨rfl, hb⟩
    have HS := Lib.hid (sum_any a l.length c l wa (H1.out.old hb) (HN.out.old hb))
    have HU := Lib.hid (@more_unlike (sum l) x y HX.out HY.out)
    have HSU := Lib.hid (sum_u32 l)
    obtain ⟨s, hs⟩ : ∃ s, s = sum l := ⟨_, rfl⟩
    rw [← hs] at HS HU HSU
    have HB := Lib.hid hb
    clear hb hs
    go_wp2_with fail
    ((with_reducible refine HS.out.mono ?_); rintro e w' ⟨rfl, rfl⟩)
    go_wp2_with fail
    ((with_reducible refine (four_any x wa HX.out).mono ?_); rintro e w1 ⟨p, q, rfl, hi, hb1⟩)
    have HM := Lib.hid (more_any s p 4 q (le4 x) w1 HSU.out hi (HN.out.old (below_two' HB.out hb1)))
    have HB1 := Lib.hid (below_two' HB.out hb1)
    obtain ⟨m, hm⟩ : ∃ m, m = more s (le4 x) := ⟨_, rfl⟩
    rw [← hm] at HM HU
    clear hi hb1 hm
    go_wp2_with fail
    ((with_reducible refine HM.out.mono ?_); rintro e w' ⟨rfl, rfl⟩)
    go_wp2_with fail
    ((with_reducible refine (four_any y w1 HY.out).mono ?_); rintro e w2 ⟨p2, q2, rfl, hi, hb2⟩)
    have HM2 := Lib.hid (more_any s p2 4 q2 (le4 y) w2 HSU.out hi (HN.out.old (below_two' HB1.out hb2)))
    have HB2 := Lib.hid (below_two' HB1.out hb2)
    obtain ⟨m2, hm2⟩ : ∃ m2, m2 = more s (le4 y) := ⟨_, rfl⟩
    rw [← hm2] at HM2 HU
    clear hi hb2 hm2
    go_wp2_with fail
    ((with_reducible refine HM2.out.mono ?_); rintro e w' ⟨rfl, rfl⟩)
    have hq := bool_eq HU.out
    go_wp2
    go_ret
    exact ⟨rfl, HB2.out⟩
end Go.Proofs.YtdjondmhckoelaaDoor.Cr
