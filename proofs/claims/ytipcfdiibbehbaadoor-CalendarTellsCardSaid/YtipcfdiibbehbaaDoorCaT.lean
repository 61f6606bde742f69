
/- a number's digits -/
import Derived.Test.YtipcfdiibbehbaaDoorCa3
import Derived.Lib.ItoaNum
import Derived.Laws.IdiomStrings
namespace Go.Proofs.YtipcfdiibbehbaaDoor.Ca
open Go.RowKit Go.Lib
set_option linter.unusedVariables false

theorem decDigits_step {N : Nat} (h : 10 ≤ N) : decDigits N = decDigits (N / 10) ++ [UInt8.ofNat (48 + N % 10)] := by rw [decDigits, dif_neg (by omega)]
/-- so far a number of four digits at least is written -/
def D4 (Y N : Nat) (l : List UInt8) : Prop := N ≤ Y ∧ (0 < N → decDigits N ++ l = decDigits Y) ∧ (N = 0 → l = decDigits Y) ∧ (l.length = 0 → 1000 ≤ N) ∧ (l.length = 1 → 100 ≤ N) ∧ (l.length = 2 → 10 ≤ N) ∧ (l.length = 3 → 1 ≤ N)
def L7 (N : Nat) (l : List UInt8) : Prop := l.length ≤ 7 ∧ N < 10 ^ (7 - l.length)
theorem L7.step {N : Nat} {l : List UInt8} (h : L7 N l) (hN : 0 < N) (c : UInt8) : L7 (N / 10) (c :: l) := by
  obtain ⟨h1, h2⟩ := h
  have h3 : l.length ≤ 6 := by
    rcases Nat.lt_or_ge l.length 7 with h | h
    · omega
    · obtain h7 : l.length = 7 := by omega
      rw [h7] at h2; simp at h2; omega
  refine ⟨by simpa using h3, ?_⟩
  rw [show 7 - l.length = (6 - l.length) + 1 by omega, Nat.pow_succ] at h2
  rw [List.length_cons, show 7 - (l.length + 1) = 6 - l.length by omega]
  omega
theorem D4.start {Y : Nat} (h : 1000 ≤ Y) : D4 Y Y [] := ⟨Nat.le_refl _, fun _ => by simp, fun h0 => by omega, fun _ => h, by simp, by simp, by simp⟩
theorem D4.step {Y N : Nat} {l : List UInt8} (h : D4 Y N l) (hN : 0 < N) : D4 Y (N / 10) (UInt8.ofNat (48 + N % 10) :: l) := by
  obtain ⟨h0, h1, h2, h3, h4, h5, h6⟩ := h
  have e := h1 hN
  refine ⟨by omega, fun hp => ?_, fun hz => ?_, by simp, ?_, ?_, ?_⟩
  · rw [decDigits_step (by omega), List.append_assoc] at e; exact e
  · rw [decDigits_one (by omega)] at e
    rw [Nat.mod_eq_of_lt (by omega)]; exact e
  · intro hl; have := h3 (by simpa using hl); omega
  · intro hl; have := h4 (by simpa using hl); omega
  · intro hl; have := h5 (by simpa using hl); omega
theorem D4.left {Y N : Nat} {l : List UInt8} (h : D4 Y N l) (hN : ¬ 0 < N) : l = decDigits Y ∧ 4 ≤ l.length := by
  obtain ⟨h0, h1, h2, h3, h4, h5, h6⟩ := h
  refine ⟨h2 (by omega), ?_⟩
  by_cases k0 : l.length = 0
  · have := h3 k0; omega
  by_cases k1 : l.length = 1
  · have := h4 k1; omega
  by_cases k2 : l.length = 2
  · have := h5 k2; omega
  by_cases k3 : l.length = 3
  · have := h6 k3; omega
  omega

theorem str_app (a b : List UInt8) : (⟨a.toArray⟩ : ByteArray) ++ ⟨b.toArray⟩ = ⟨(a ++ b).toArray⟩ := by apply ByteArray.ext; simp
theorem str_cons (c : UInt8) (l : List UInt8) : (⟨#[c]⟩ : ByteArray) ++ ⟨l.toArray⟩ = ⟨(c :: l).toArray⟩ := str_app [c] l
theorem dig_add (n : Nat) : (48 : UInt8) + UInt8.ofNat n = UInt8.ofNat (48 + n) := by simp
def strLen (v : Value) : Nat := match v with
  | .string s => s.data.size
  | _ => 0
/-- a string of one byte -/
theorem one_str (w : World) (c : UInt8) (k : Int) (hk : k = (c.toNat : Nat)) :
    (convert 39 9 (.slice (some ⟨w.heap.size, 0, none⟩) 1 1)).run Tryd.prog (w.alloc (.cells #[.int .u8 k] 5)) = .ok (.string ⟨#[c]⟩) (w.alloc (.cells #[.int .u8 k] 5)) := by
  subst hk
  exact run_convert_bytes_back (w.alloc (.cells #[.int .u8 (c.toNat : Nat)] 5)) 39 9 5 ⟨w.heap.size, 0, none⟩ 1 [c] Tryd.underlying39 Tryd.underlying5 Tryd.underlying9 (fun j hj => by
    obtain rfl : j = 0 := by simpa using hj
    simp [Addr.add])
theorem dig_byte (N : Nat) : (48 + (N : Int) % 10) = ((UInt8.ofNat (48 + N % 10)).toNat : Nat) := by
  rw [UInt8.toNat_ofNat', Nat.mod_eq_of_lt (by omega)]; omega

set_option maxHeartbeats 1000000 in
theorem digits4 (Y : Nat) (w : World) (h1 : 1000 ≤ Y) (h2 : Y ≤ 3000000) :
    Calls Tryd.prog 8 #[.int .i64 (Y : Nat), .int .i64 4] w fun e w' => e = .returned (.string ⟨(decDigits Y).toArray⟩) ∧ Below w.heap.size w w' := by
  go_enter Tryd.func8, Tryd.ntmps8
  go_wp2_with fail
  go_loopw [0, 5] (fun n v wr => ∃ (N : Nat) (l : List UInt8), n = .int .i64 (N : Nat) ∧ v = .string ⟨l.toArray⟩ ∧ L7 N l ∧ D4 Y N l ∧ Below w.heap.size w wr) (fun n _ _ => (intOf n).toNat)
  case atStart => exact ⟨Y, [], rfl, rfl, ⟨by simp, by simp; omega⟩, D4.start h1, Below.refl _ _⟩
  case round =>
    obtain ⟨N, l, rfl, rfl, hl7, hD, hb⟩ := hrel
    have hl : l.length ≤ 7 := hl7.1
    have hNY : N ≤ 3000000 := by have := hD.1; omega
    by_cases hN : 0 < N
    · have HD := Lib.hid (And.intro hD (And.intro hb hl7))
      clear hD hb hl7
      have hNI : (0 : Int) < (N : Int) := by omega
      have hcv := one_str wr _ _ (dig_byte N)
      go_wp2_with fail
      refine ⟨⟨N / 10, UInt8.ofNat (48 + N % 10) :: l, by go_num, ?_, HD.out.2.2.step hN _, HD.out.1.step hN, HD.out.2.1.alloc HD.out.2.1.size _⟩, by simp [intOf]; omega⟩
      exact congrArg Value.string (by rw [dig_add]; exact str_cons _ _)
    · obtain ⟨e, hl4⟩ := hD.left hN
      obtain rfl : N = 0 := by omega
      have HE := Lib.hid (And.intro e hb)
      clear e hD hb hl7
      go_wp2_with fail
      go_ret
      exact ⟨by rw [← HE.out.1]; rfl, HE.out.2⟩
/-- a number below 100, of two digits -/
def two (x : Nat) : List UInt8 := [UInt8.ofNat (48 + x / 10), UInt8.ofNat (48 + x % 10)]
set_option maxHeartbeats 1000000 in
theorem digits2 (x : Nat) (w : World) (h2 : x < 100) :
    Calls Tryd.prog 8 #[.int .i64 (x : Nat), .int .i64 2] w fun e w' => e = .returned (.string ⟨(two x).toArray⟩) ∧ Below w.heap.size w w' := by
  go_enter Tryd.func8, Tryd.ntmps8
  go_wp2_with fail
  go_loopw [0, 5] (fun n v wr => ∃ (N : Nat) (l : List UInt8), n = .int .i64 (N : Nat) ∧ v = .string ⟨l.toArray⟩ ∧ ((N = x ∧ l = []) ∨ (N = x / 10 ∧ l = [UInt8.ofNat (48 + x % 10)]) ∨ (N = 0 ∧ l = two x)) ∧ Below w.heap.size w wr) (fun n v _ => (intOf n).toNat + (3 - strLen v))
  case atStart => exact ⟨x, [], rfl, rfl, .inl ⟨rfl, rfl⟩, Below.refl _ _⟩
  case round =>
    obtain ⟨N, l, rfl, rfl, hor, hb⟩ := hrel
    have hN100 : N < 100 := by omega
    rcases hor with ⟨rfl, rfl⟩ | ⟨e1, rfl⟩ | ⟨rfl, rfl⟩
    · have HB := Lib.hid hb
      clear hb
      by_cases h0 : (0 : Int) < (N : Int)
      · have hcv := one_str wr _ _ (dig_byte N)
        go_wp2_with fail
        rw [dig_add, show ((⟨#[UInt8.ofNat (48 + N % 10)]⟩ : ByteArray) ++ ⟨#[]⟩) = ⟨[UInt8.ofNat (48 + N % 10)].toArray⟩ from str_cons _ []]
        exact ⟨⟨N / 10, [UInt8.ofNat (48 + N % 10)], by go_num, rfl, .inr (.inl ⟨rfl, rfl⟩), HB.out.alloc HB.out.size _⟩, by simp [intOf, strLen]; omega⟩
      · obtain rfl : N = 0 := by omega
        have hcv := one_str wr 48 48 rfl
        go_wp2_with fail
        rw [show ((⟨#[48]⟩ : ByteArray) ++ ⟨#[]⟩) = ⟨[48].toArray⟩ from str_cons _ []]
        exact ⟨⟨0, [48], rfl, rfl, .inr (.inl ⟨rfl, rfl⟩), HB.out.alloc HB.out.size _⟩, by simp [intOf, strLen]⟩
    · have HB := Lib.hid (And.intro hb e1)
      have hN10 : N < 10 := by omega
      have e3 : N / 10 = 0 := by omega
      have e4 : N % 10 = N := by omega
      have HE := Lib.hid (And.intro e3 e4)
      clear hb e1 e3 e4
      by_cases h0 : (0 : Int) < (N : Int)
      · have hcv := one_str wr _ _ (dig_byte N)
        go_wp2_with fail
        rw [dig_add, dig_add, show ((⟨#[UInt8.ofNat (48 + N % 10)]⟩ : ByteArray) ++ ⟨#[UInt8.ofNat (48 + x % 10)]⟩) = ⟨(two x).toArray⟩ from (str_cons _ [_]).trans (by rw [HE.out.2, HB.out.2]; rfl)]
        exact ⟨⟨0, two x, congrArg (Value.int .i64) (by have := HE.out.1; omega), rfl, .inr (.inr ⟨rfl, rfl⟩), HB.out.1.alloc HB.out.1.size _⟩, by simp [intOf, strLen, two]; omega⟩
      · obtain rfl : N = 0 := by omega
        have hcv := one_str wr 48 48 rfl
        go_wp2_with fail
        rw [dig_add, show ((⟨#[48]⟩ : ByteArray) ++ ⟨#[UInt8.ofNat (48 + x % 10)]⟩) = ⟨(two x).toArray⟩ from (str_cons _ [_]).trans (by unfold two; rw [← HB.out.2]; rfl)]
        exact ⟨⟨0, two x, rfl, rfl, .inr (.inr ⟨rfl, rfl⟩), HB.out.1.alloc HB.out.1.size _⟩, by simp [intOf, strLen, two]⟩
    · have HB := Lib.hid hb
      clear hb
      go_wp2_with fail
      go_ret
      exact ⟨rfl, HB.out⟩
end Go.Proofs.YtipcfdiibbehbaaDoor.Ca
