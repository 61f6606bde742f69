
/- the reader's contracts, over Nw -/
import Derived.Test.YtcodjknhnhdkfaaDoorNw
import Derived.Lib.VarintBits
import Derived.Laws.BitsAllLaws
namespace Go.Proofs.YtcodjknhnhdkfaaDoor.Wn
open Go.RowKit Go.Lib Go.Proofs.YtcodjknhnhdkfaaDoor.By Go.Proofs.YtcodjknhnhdkfaaDoor.Rf
set_option maxRecDepth 20000

/-! ### a block of two cells -/
theorem two_setCell0 {w : World} {b : Nat} {v e u : Value} {t : TypeId} (h : w.heap[b]? = some (.cells #[v, e] t (0, 0))) : (w.setCell ⟨b, 0, none⟩ u).heap[b]? = some (.cells #[u, e] t (0, 0)) := by
  have hlt := lt_of_block h
  have h' : w.heap[b] = .cells #[v, e] t (0, 0) := by simpa [Array.getElem?_eq_getElem hlt] using h
  show (w.heap.modify b _)[b]? = _
  rw [Array.getElem?_eq_getElem (by simpa using hlt), Array.getElem_modify_self, h']
  rfl
theorem two_setCell1 {w : World} {b : Nat} {v e u : Value} {t : TypeId} (h : w.heap[b]? = some (.cells #[v, e] t (0, 0))) : (w.setCell ⟨b, 1, none⟩ u).heap[b]? = some (.cells #[v, u] t (0, 0)) := by
  have hlt := lt_of_block h
  have h' : w.heap[b] = .cells #[v, e] t (0, 0) := by simpa [Array.getElem?_eq_getElem hlt] using h
  show (w.heap.modify b _)[b]? = _
  rw [Array.getElem?_eq_getElem (by simpa using hlt), Array.getElem_modify_self, h']
  rfl
theorem two_cell0 {w : World} {b : Nat} {v e : Value} {t : TypeId} (h : w.heap[b]? = some (.cells #[v, e] t (0, 0))) : w.cell? ⟨b, 0, none⟩ = some v ∧ w.frozen? ⟨b, 0, none⟩ = false := by simp [World.cell?, World.frozen?, h]
theorem two_cell1 {w : World} {b : Nat} {v e : Value} {t : TypeId} (h : w.heap[b]? = some (.cells #[v, e] t (0, 0))) : w.cell? ⟨b, 1, none⟩ = some e ∧ w.frozen? ⟨b, 1, none⟩ = false := by simp [World.cell?, World.frozen?, h]

/-- but for block rb nothing has turned -/
structure At (rb : Nat) (w w' : World) : Prop where
  os : w'.os = w.os
  tape : w'.tape = w.tape
  output : w'.output = w.output
  size : w'.heap.size = w.heap.size
  block : ∀ k, k ≠ rb → w'.heap[k]? = w.heap[k]?
theorem At.refl (rb : Nat) (w : World) : At rb w w := ⟨rfl, rfl, rfl, rfl, fun _ _ => rfl⟩
theorem At.trans {rb : Nat} {a b c : World} (h : At rb a b) (k : At rb b c) : At rb a c :=
  ⟨k.os.trans h.os, k.tape.trans h.tape, k.output.trans h.output, k.size.trans h.size, fun i hn => (k.block i hn).trans (h.block i hn)⟩
theorem At.setCell {rb : Nat} {a b : World} (h : At rb a b) (i : Nat) (u : Value) : At rb a (b.setCell ⟨rb, i, none⟩ u) :=
  h.trans ⟨rfl, rfl, rfl, by simp [World.setCell], fun k hk => Below.heap_setCell _ _ _ _ hk⟩
theorem At.below {rb N : Nat} {a b : World} (h : At rb a b) (hN : N ≤ rb) : Below N a b :=
  ⟨h.os, h.tape, h.output, Nat.le_of_eq h.size.symm, fun k hk => h.block k (by omega)⟩
theorem At.cell {rb : Nat} {a b : World} (h : At rb a b) {p : Addr} (hp : p.block ≠ rb) : b.cell? p = a.cell? p := World.cell?_of_block (w := a) (h.block p.block hp)

/-- the bytes that are left: nil, or cells in another block than rb -/
def U8 (w : World) (g : Nat) : Prop := ∃ cur, w.heap[g]? = some (.cells cur 5 (0, 0))
theorem U8.at {rb g : Nat} {w w' : World} (h : U8 w g) (hA : At rb w w') (hg : g ≠ rb) : U8 w' g := let ⟨cur, e⟩ := h; ⟨cur, (hA.block g hg).trans e⟩
theorem U8.lt {g : Nat} {w : World} (h : U8 w g) : g < w.heap.size := let ⟨_, e⟩ := h; lt_of_block e
def Lf (w : World) (rb : Nat) (a : Option Addr) (cap : Nat) (l : List UInt8) : Prop :=
  (a = none ∧ l = [] ∧ cap = 0) ∨ ∃ g o, a = some ⟨g, o, none⟩ ∧ l.length ≤ cap ∧ cap ≤ maxLen ∧ g ≠ rb ∧ (∀ j u, (byteCells l)[j]? = some u → w.cell? ⟨g, o + j, none⟩ = some u) ∧ U8 w g

theorem Lf.at {w w' : World} {rb : Nat} {a : Option Addr} {cap : Nat} {l : List UInt8} (h : Lf w rb a cap l) (hA : At rb w w') : Lf w' rb a cap l := by
  rcases h with h | ⟨g, o, rfl, h1, h2, h3, h4, h9⟩
  · exact .inl h
  · exact .inr ⟨g, o, rfl, h1, h2, h3, fun j u hu => (hA.cell h3).trans (h4 j u hu), h9.at hA h3⟩
theorem lf_tail {w : World} {g o : Nat} {c : UInt8} {t : List UInt8} (h : ∀ j u, (byteCells (c :: t))[j]? = some u → w.cell? ⟨g, o + j, none⟩ = some u) :
    ∀ j u, (byteCells t)[j]? = some u → w.cell? ⟨g, o + 1 + j, none⟩ = some u := fun j u hu => by
  have := h (j + 1) u (by simpa [byteCells] using hu)
  rwa [show o + (j + 1) = o + 1 + j by omega] at this

/-! ### Num -/
/-- what Num makes of the bytes, from the k-th on: the number, what is left, the error -/
def dec (k X : Nat) : List UInt8 → Nat × List UInt8 × Int
  | [] => (0, [], 4)
  | b :: t => if (k = 9 ∧ 1 < b.toNat) ∨ (0 < k ∧ b.toNat = 0) then (0, [], 2) else
      if b.toNat < 128 then (X + b.toNat * 128 ^ k, t, 0) else dec (k + 1) (X + (b.toNat - 128) * 128 ^ k) t

theorem dec_bad {k X : Nat} {c : UInt8} {t : List UInt8} (h : (k = 9 ∧ 1 < c.toNat) ∨ (0 < k ∧ c.toNat = 0)) : dec k X (c :: t) = (0, [], 2) := by
  simp only [dec]; rw [if_pos h]
theorem dec_last {k X : Nat} {c : UInt8} {t : List UInt8} (h : ¬ ((k = 9 ∧ 1 < c.toNat) ∨ (0 < k ∧ c.toNat = 0))) (hc : c.toNat < 128) : dec k X (c :: t) = (X + c.toNat % 128 * 128 ^ k, t, 0) := by
  simp only [dec]; rw [if_neg h, if_pos hc, Nat.mod_eq_of_lt hc]
theorem dec_more {k X : Nat} {c : UInt8} {t : List UInt8} (h : ¬ ((k = 9 ∧ 1 < c.toNat) ∨ (0 < k ∧ c.toNat = 0))) (hc : ¬ c.toNat < 128) : dec k X (c :: t) = dec (k + 1) (X + c.toNat % 128 * 128 ^ k) t := by
  have := c.toNat_lt
  simp only [dec]; rw [if_neg h, if_neg hc, show c.toNat % 128 = c.toNat - 128 by omega]

theorem pow_7 (k : Nat) : (2 : Int) ^ (7 * k) = ((128 ^ k : Nat) : Int) := by
  have h : (2 : Nat) ^ (7 * k) = 128 ^ k := by rw [Nat.pow_mul]
  rw [← h]; simp
theorem numbits {k X c : Nat} (hk : k ≤ 9) (hX : X < 128 ^ k) (hc : c < 256) (h9 : k = 9 → c ≤ 1) :
    bits .or .u64 (X : Int) (IntKind.u64.wrap (IntKind.u64.wrap (bits .andNot .u8 (c : Int) 128) * 2 ^ (7 * k))) = ((X + c % 128 * 128 ^ k : Nat) : Int) := by
  have e0 : bits .andNot .u8 (c : Int) 128 = ((c % 128 : Nat) : Int) := by
    rw [u8_andNot _ _ (by omega) (by omega) (by decide) (by decide)]
    simp only [Int.toNat_natCast]
    exact congrArg Nat.cast (Nat.and_two_pow_sub_one_eq_mod c 7)
  have hP : 128 ^ k ≤ 128 ^ 9 := Nat.pow_le_pow_right (by decide) hk
  have hlt : c % 128 * 128 ^ k < 18446744073709551616 := by
    by_cases h : k = 9
    · subst h; have := h9 rfl; have : c % 128 ≤ 1 := by omega
      exact Nat.lt_of_le_of_lt (Nat.mul_le_mul_right _ this) (by decide)
    · have h8 : 128 ^ k ≤ 128 ^ 8 := Nat.pow_le_pow_right (by decide) (by omega)
      exact Nat.lt_of_le_of_lt (Nat.mul_le_mul (show c % 128 ≤ 127 by omega) h8) (by decide)
  have hXl : X < 18446744073709551616 := Nat.lt_of_lt_of_le hX (Nat.le_trans hP (by decide))
  have e1 : IntKind.u64.wrap ((c % 128 : Nat) : Int) = ((c % 128 : Nat) : Int) := u64_wrap_id _ (by omega) (by omega)
  rw [e0, e1, pow_7, ← Int.natCast_mul, u64_wrap_id _ (by omega) (by omega)]
  rw [bits_join_low .u64 64 (by decide) wraps_u64 (7 * k) (X : Int) ((c % 128 * 128 ^ k : Nat) : Int) (by omega) (by rw [pow_7]; omega) (by omega) (by omega) (by rw [pow_7, ← Int.natCast_emod, Nat.mul_mod_left]; rfl) (by omega)]
  omega
theorem numbits_lt {k X c : Nat} (hX : X < 128 ^ k) : X + c % 128 * 128 ^ k < 128 ^ (k + 1) := by
  rw [Nat.pow_succ]
  have : c % 128 * 128 ^ k ≤ 127 * 128 ^ k := Nat.mul_le_mul_right _ (by omega)
  omega
theorem numbits0 {X c : Nat} (hX : X < 128 ^ 0) (hc : c < 256) :
    bits .or .u64 (X : Int) (IntKind.u64.wrap (IntKind.u64.wrap (bits .andNot .u8 (c : Int) 128))) = ((X + c % 128 * 128 ^ 0 : Nat) : Int) := by
  have := numbits (k := 0) (by omega) hX hc (by omega)
  simpa using this
theorem numbits9 {X c : Nat} (hX : X < 128 ^ 9) (hc : c ≤ 1) :
    bits .or .u64 (X : Int) (IntKind.u64.wrap (IntKind.u64.wrap (bits .andNot .u8 (c : Int) 128) * 9223372036854775808)) = ((X + c % 128 * 128 ^ 9 : Nat) : Int) := by
  have := numbits (k := 9) (by omega) hX (show c < 256 by omega) (by omega)
  simpa using this

theorem dec_u64 : ∀ (l : List UInt8) (k X : Nat), k ≤ 9 → X < 128 ^ k → U64 (dec k X l).1
  | [], k, X, _, _ => by simp only [dec]; unfold U64; decide
  | b :: t, k, X, hk, hX => by
    by_cases h : (k = 9 ∧ 1 < b.toNat) ∨ (0 < k ∧ b.toNat = 0)
    · rw [dec_bad h]; unfold U64; decide
    · by_cases hb : b.toNat < 128
      · rw [dec_last h hb]
        by_cases h9 : k = 9
        · subst h9
          have : b.toNat % 128 ≤ 1 := by omega
          have h2 : b.toNat % 128 * 128 ^ 9 ≤ 1 * 128 ^ 9 := Nat.mul_le_mul_right _ this
          show X + _ < 18446744073709551616
          omega
        · have h1 := numbits_lt (c := b.toNat) hX
          have h2 : 128 ^ (k + 1) ≤ 128 ^ 9 := Nat.pow_le_pow_right (by decide) (by omega)
          show X + _ < 18446744073709551616
          omega
      · rw [dec_more h hb]
        exact dec_u64 t (k + 1) _ (by omega) (numbits_lt hX)

/-! ### Count -/
theorem dec_zero : ∀ (l : List UInt8) (k X : Nat), (dec k X l).2.2 ≠ 0 → (dec k X l).1 = 0 ∧ (dec k X l).2.1 = []
  | [], k, X, _ => ⟨rfl, rfl⟩
  | b :: t, k, X, h => by
    by_cases h1 : (k = 9 ∧ 1 < b.toNat) ∨ (0 < k ∧ b.toNat = 0)
    · rw [dec_bad h1]; exact ⟨rfl, rfl⟩
    · by_cases hb : b.toNat < 128
      · rw [dec_last h1 hb] at h; exact absurd rfl h
      · rw [dec_more h1 hb] at h ⊢
        exact dec_zero t (k + 1) _ h
theorem dec_len : ∀ (l : List UInt8) (k X : Nat), (dec k X l).2.1.length ≤ l.length
  | [], k, X => by simp [dec]
  | b :: t, k, X => by
    by_cases h1 : (k = 9 ∧ 1 < b.toNat) ∨ (0 < k ∧ b.toNat = 0)
    · rw [dec_bad h1]; simp
    · by_cases hb : b.toNat < 128
      · rw [dec_last h1 hb]; simp
      · rw [dec_more h1 hb]
        have := dec_len t (k + 1) (X + b.toNat % 128 * 128 ^ k)
        simp; omega

/-- what Count makes of the bytes -/
def cnt (m : Nat) (l : List UInt8) : Nat × List UInt8 × Int := if (dec 0 0 l).1 ≤ m then dec 0 0 l else (0, [], 15)
theorem cnt_le (m : Nat) (l : List UInt8) : (cnt m l).1 ≤ m := by unfold cnt; split <;> simp_all
theorem cnt_zero (m : Nat) (l : List UInt8) (h : (cnt m l).2.2 ≠ 0) : (cnt m l).1 = 0 ∧ (cnt m l).2.1 = [] := by
  unfold cnt at h ⊢
  by_cases h1 : (dec 0 0 l).1 ≤ m
  · rw [if_pos h1] at h ⊢; exact dec_zero l 0 0 h
  · rw [if_neg h1]; exact ⟨rfl, rfl⟩

theorem dec_uv : ∀ (m n k X : Nat) (t : List UInt8), n ≤ m → k ≤ 9 → n * 128 ^ k < 18446744073709551616 → (k = 0 ∨ 0 < n) → dec k X (uvarint n ++ t) = (X + n * 128 ^ k, t, 0)
  | m, n, k, X, t, hm, hk, hn, h0 => by
    have h9 : k = 9 → n < 2 := fun e => by
      subst e
      rcases Nat.lt_or_ge n 2 with h | h
      · exact h
      · have := Nat.mul_le_mul_right (128 ^ 9) h
        exact absurd hn (Nat.not_lt.2 (Nat.le_trans (by decide) this))
    by_cases hs : n < 128
    · rw [uvarint_small hs, List.singleton_append]
      have e : n.toUInt8.toNat = n := toUInt8_toNat (by omega)
      have hnb : ¬ ((k = 9 ∧ 1 < n.toUInt8.toNat) ∨ (0 < k ∧ n.toUInt8.toNat = 0)) := by rw [e]; omega
      rw [dec_last hnb (by omega), e, Nat.mod_eq_of_lt hs]
    · rw [uvarint_big (by omega), List.cons_append]
      have e : (n % 128 + 128).toUInt8.toNat = n % 128 + 128 := toUInt8_toNat (by omega)
      have hnb : ¬ ((k = 9 ∧ 1 < (n % 128 + 128).toUInt8.toNat) ∨ (0 < k ∧ (n % 128 + 128).toUInt8.toNat = 0)) := by rw [e]; omega
      rw [dec_more hnb (by omega), e]
      match m, hm with
      | 0, hm => omega
      | m + 1, hm =>
        have hd : n / 128 * 128 ^ (k + 1) ≤ n * 128 ^ k := by
          rw [Nat.pow_succ, Nat.mul_comm (128 ^ k), ← Nat.mul_assoc]
          exact Nat.mul_le_mul_right _ (Nat.div_mul_le_self n 128)
        rw [dec_uv m (n / 128) (k + 1) _ t (by omega) (by omega) (by omega) (.inr (by omega))]
        have e2 : (n % 128 + 128) % 128 = n % 128 := by omega
        rw [e2]
        have e3 : n % 128 * 128 ^ k + n / 128 * 128 ^ (k + 1) = n * 128 ^ k := by
          rw [Nat.pow_succ, Nat.mul_comm (128 ^ k), ← Nat.mul_assoc, ← Nat.add_mul]
          congr 1; omega
        rw [Nat.add_assoc, e3]
theorem dec_uv0 {n : Nat} (h : U64 n) (t : List UInt8) : dec 0 0 (uvarint n ++ t) = (n, t, 0) := by
  rw [dec_uv n n 0 0 t (Nat.le_refl _) (by omega) (by unfold U64 at h; omega) (.inl rfl)]; simp

theorem add_lit' (g o j : Nat) : (⟨g, o, none⟩ : Addr).add j = ⟨g, o + j, none⟩ := by unfold Addr.add; split <;> simp_all

theorem lf_own {w : World} {B rb : Nat} {a : Option Addr} {cap : Nat} {l : List UInt8} (h : w.ownsRow B 5 1 (.slice a l.length cap) l.length (byteCells l)) (hr : w.heap.size ≤ rb) (o : Obj) : Lf (w.alloc o) rb a cap l := by
  cases a with
  | none =>
    left
    rcases h.2 with ⟨h1, h2⟩ | ⟨g, c, cur, h1, _⟩
    · simp at h1; exact ⟨rfl, List.length_eq_zero_iff.1 h2, h1.2⟩
    · simp at h1
  | some x =>
    right
    rcases h.2 with ⟨h1, h2⟩ | ⟨g, c, cur, h1, h2, h3, h4, h5, h6, h7⟩
    · simp at h1
    · have h1' := h1
      simp only [Value.slice.injEq, Option.some.injEq, true_and] at h1'
      obtain ⟨rfl, rfl⟩ := h1'
      have hg := lt_of_block h3
      refine ⟨g, 0, rfl, h4, h5, by omega, fun j u hu => ?_, ⟨cur, (((Below.refl w.heap.size w).alloc (Nat.le_refl _) o).block g hg).trans h3⟩⟩
      have := h.cells (g := g) rfl j u hu
      rw [add_lit'] at this
      exact ((((Below.refl w.heap.size w).alloc (Nat.le_refl _) o).cell (p := ⟨g, 0 + j, none⟩) hg)).trans this

/-- a signed number out of a number -/
def unzig (n : Nat) : Int := if n % 2 = 0 then ((n / 2 : Nat) : Int) else -((n / 2 : Nat) : Int) - 1
theorem unzig_zig (x : Int) : unzig (zigzag x) = x := by
  unfold unzig zigzag
  split <;> split <;> omega

theorem xor_id (x : Nat) (hx : x < 9223372036854775808) : bits .xor .i64 (x : Int) 0 = (x : Int) := by
  show IntKind.i64.wrap ((BitVec.ofInt 64 (x : Int) ^^^ BitVec.ofInt 64 0).toNat : Int) = _
  have h2 : (BitVec.ofInt 64 (x : Int)).toNat = x := by
    rw [BitVec.ofInt_natCast, BitVec.toNat_ofNat]; exact Nat.mod_eq_of_lt (by omega)
  have h3 : (BitVec.ofInt 64 0).toNat = 0 := by decide
  rw [BitVec.toNat_xor, h2, h3, Nat.xor_zero, IntKind.wrap_i64]
  omega
theorem xor_not (x : Nat) (hx : x < 9223372036854775808) : bits .xor .i64 (x : Int) (-1) = -(x : Int) - 1 := by
  show IntKind.i64.wrap ((BitVec.ofInt 64 (x : Int) ^^^ BitVec.ofInt 64 (-1)).toNat : Int) = _
  have h1 : (BitVec.ofInt 64 (-1)).toNat = 2 ^ 64 - 1 := by decide
  have h2 : (BitVec.ofInt 64 (x : Int)).toNat = x := by
    rw [BitVec.ofInt_natCast, BitVec.toNat_ofNat]; exact Nat.mod_eq_of_lt (by omega)
  rw [BitVec.toNat_xor, h1, h2, Nat.xor_comm, xor_ones64 x (by omega), IntKind.wrap_i64]
  omega
theorem unz {n : Nat} (h : U64 n) : bits .xor .i64 (wrap64 ((n : Int) / 2)) (wrap64 (-wrap64 (bits .and .u64 (n : Int) 1))) = unzig n := by
  unfold U64 at h
  rw [u64_and1 _ (by omega) (by omega)]
  have e : wrap64 ((n : Int) / 2) = ((n / 2 : Nat) : Int) := by unfold wrap64; omega
  rw [e]
  unfold unzig
  by_cases h2 : n % 2 = 0
  · rw [if_pos h2, show wrap64 (-wrap64 ((n : Int) % 2)) = 0 by unfold wrap64; omega, xor_id _ (by omega)]
  · rw [if_neg h2, show wrap64 (-wrap64 ((n : Int) % 2)) = -1 by unfold wrap64; omega, xor_not _ (by omega)]

/-- what Text makes of the bytes -/
def txt (m : Nat) (l : List UInt8) : List UInt8 × List UInt8 × Int :=
  if (cnt m l).2.1.length < (cnt m l).1 then ([], [], 4) else ((cnt m l).2.1.take (cnt m l).1, (cnt m l).2.1.drop (cnt m l).1, (cnt m l).2.2)

def endE (l : List UInt8) (er : Int) : Int := if er ≠ 0 then er else if l = [] then 0 else 15
end Go.Proofs.YtcodjknhnhdkfaaDoor.Wn
