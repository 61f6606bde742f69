/- what is written is read: the plain part of OctetWrites -/
import Derived.Test.YtfbohbcokggmpaaRd4
import Derived.Test.YtfbohbcokggmpaaRef
namespace Go.Proofs.Ytfbohbcokggmpaa.Oc
open Go.RowKit Go.Lib

theorem dec_uv : ∀ (m n k X : Nat) (t : List UInt8), n ≤ m → k ≤ 9 → n * 128 ^ k < 18446744073709551616 → (k = 0 ∨ 0 < n) → dec k X (uvarint n ++ t) = (X + n * 128 ^ k, t, 0)
  | m, n, k, X, t, hm, hk, hn, h0 => by
    have h9 : k = 9 → n < 2 := fun e => by
      subst e
      rcases Nat.lt_or_ge n 2 with h | h
      · exact h
      · have := Nat.mul_le_mul_right (128 ^ 9) h
        exact absurd hn (Nat.not_lt.2 (Nat.le_trans (by decide) this))
    by_cases hs : n < 128
    · rw [uvarint_small hs, List.singleton_append]
      have e : n.toUInt8.toNat = n := toUInt8_toNat (by omega)
      have hnb : ¬ ((k = 9 ∧ 1 < n.toUInt8.toNat) ∨ (0 < k ∧ n.toUInt8.toNat = 0)) := by rw [e]; omega
      rw [dec_last hnb (by omega), e, Nat.mod_eq_of_lt hs]
    · rw [uvarint_big (by omega), List.cons_append]
      have e : (n % 128 + 128).toUInt8.toNat = n % 128 + 128 := toUInt8_toNat (by omega)
      have hnb : ¬ ((k = 9 ∧ 1 < (n % 128 + 128).toUInt8.toNat) ∨ (0 < k ∧ (n % 128 + 128).toUInt8.toNat = 0)) := by rw [e]; omega
      rw [dec_more hnb (by omega), e]
      match m, hm with
      | 0, hm => omega
      | m + 1, hm =>
        have hd : n / 128 * 128 ^ (k + 1) ≤ n * 128 ^ k := by
          rw [Nat.pow_succ, Nat.mul_comm (128 ^ k), ← Nat.mul_assoc]
          exact Nat.mul_le_mul_right _ (Nat.div_mul_le_self n 128)
        rw [dec_uv m (n / 128) (k + 1) _ t (by omega) (by omega) (by omega) (.inr (by omega))]
        have e2 : (n % 128 + 128) % 128 = n % 128 := by omega
        rw [e2]
        have e3 : n % 128 * 128 ^ k + n / 128 * 128 ^ (k + 1) = n * 128 ^ k := by
          rw [Nat.pow_succ, Nat.mul_comm (128 ^ k), ← Nat.mul_assoc, ← Nat.add_mul]
          congr 1; omega
        rw [Nat.add_assoc, e3]
theorem dec_uv0 {n : Nat} (h : U64 n) (t : List UInt8) : dec 0 0 (uvarint n ++ t) = (n, t, 0) := by
  rw [dec_uv n n 0 0 t (Nat.le_refl _) (by omega) (by unfold U64 at h; omega) (.inl rfl)]; simp

theorem num_uv (rb n : Nat) (t : List UInt8) (w : World) (hn : U64 n) (h : Rd w rb (uvarint n ++ t) 0) :
    Calls Try.prog 16 #[.pointer (some ⟨rb, 0, none⟩)] w fun e w' => e = .returned (.int .u64 n) ∧ Rd w' rb t 0 ∧ At rb w w' := by
  have := num_ok rb _ w h
  rwa [dec_uv0 hn] at this
theorem int_uv (rb : Nat) (x : Int) (t : List UInt8) (w : World) (hx : (Lit.int .i64 x).wf = true) (h : Rd w rb (uvarint (zigzag x) ++ t) 0) :
    Calls Try.prog 17 #[.pointer (some ⟨rb, 0, none⟩)] w fun e w' => e = .returned (.int .i64 x) ∧ Rd w' rb t 0 ∧ At rb w w' := by
  have := rint_ok rb _ w h
  rwa [dec_uv0 (zig_u64 hx), unzig_zig] at this
theorem text_uv (rb m : Nat) (s : ByteArray) (t : List UInt8) (w : World) (hs : s.size ≤ m) (hm : m ≤ 1000000000000) (h : Rd w rb (textB s ++ t) 0) :
    Calls Try.prog 19 #[.pointer (some ⟨rb, 0, none⟩), .int .i64 m] w fun e w' => e = .returned (.string s) ∧ Rd w' rb t 0 ∧ At rb w w' := by
  have hu : U64 s.size := by unfold U64; omega
  have hc : cnt m (textB s ++ t) = (s.size, s.data.toList ++ t, 0) := by
    unfold cnt textB
    rw [List.append_assoc, dec_uv0 hu]
    simp only
    rw [if_pos hs]
  have ht : txt m (textB s ++ t) = (s.data.toList, t, 0) := by
    have hl : s.data.toList.length = s.size := Array.length_toList
    unfold txt
    rw [hc]
    simp only
    rw [if_neg (by rw [List.length_append, hl]; omega), ← hl, List.take_left, List.drop_left]
  have := text_ok rb _ m w h hm
  rwa [ht] at this

/-! ### items -/
/-- a row of bytes for an item: kind, number, text -/
def encI (x : Nat × Nat × ByteArray) : List UInt8 :=
  if x.1 % 4 = 0 then uvarint x.2.1 else if x.1 % 4 = 1 then uvarint (zigzag (wrap64 x.2.1)) else if x.1 % 4 = 2 then [if x.2.1 % 2 = 1 then 1 else 0] else textB x.2.2
def outB (l : List (Nat × Nat × ByteArray)) : List UInt8 := l.flatMap encI
def WfI (x : Nat × Nat × ByteArray) : Prop := x.1 < 256 ∧ U64 x.2.1 ∧ x.2.2.size ≤ maxLen
theorem wrap64_wf (n : Int) : (Lit.int .i64 (wrap64 n)).wf = true := by
  simp [Lit.wf, IntKind.min, IntKind.max, IntKind.signed, IntKind.bits, wrap64]; omega
theorem encI_len {x : Nat × Nat × ByteArray} (hw : WfI x) (hs : x.2.2.size ≤ 200) : (encI x).length ≤ 210 := by
  unfold encI
  split
  · have := uvarint_length64 hw.2.1; omega
  · split
    · have := uvarint_length64 (zig_u64 (wrap64_wf (x.2.1 : Int))); omega
    · split
      · simp
      · have hu : U64 x.2.2.size := by unfold U64; omega
        have := uvarint_length64 hu
        have hl : x.2.2.data.toList.length = x.2.2.size := Array.length_toList
        unfold textB; rw [List.length_append, hl]; omega
theorem outB_len : ∀ (l : List (Nat × Nat × ByteArray)), (∀ x ∈ l, WfI x ∧ x.2.2.size ≤ 200) → (outB l).length ≤ 210 * l.length
  | [], _ => by simp [outB]
  | x :: l, h => by
    have h1 := encI_len (h x (by simp)).1 (h x (by simp)).2
    have h2 := outB_len l (fun y hy => h y (by simp [hy]))
    simp only [outB, List.flatMap_cons, List.length_append, List.length_cons] at *
    omega
theorem outB_take {l : List (Nat × Nat × ByteArray)} {k : Nat} (h : k < l.length) : outB (l.take (k + 1)) = outB (l.take k) ++ encI l[k] := by
  unfold outB; rw [List.take_succ_eq_append_getElem h, List.flatMap_append]; simp
theorem outB_drop {l : List (Nat × Nat × ByteArray)} {k : Nat} (h : k < l.length) : outB (l.drop k) = encI l[k] ++ outB (l.drop (k + 1)) := by
  unfold outB; rw [List.drop_eq_getElem_cons h, List.flatMap_cons]

/-- a slice of items that came in -/
def IsIt (w : World) (a : Option Addr) (l : List (Nat × Nat × ByteArray)) : Prop :=
  (∀ x ∈ l, WfI x) ∧ (l = [] ∨ ∃ b o, a = some ⟨b, o, none⟩ ∧ ∀ i (h : i < l.length), w.cell? ⟨b, o + i * 3, none⟩ = some (.int .u8 l[i].1) ∧ w.cell? ⟨b, o + i * 3 + 1, none⟩ = some (.int .u64 l[i].2.1) ∧ w.cell? ⟨b, o + i * 3 + 2, none⟩ = some (.string l[i].2.2))
theorem IsIt.old {w w' : World} {a : Option Addr} {l : List (Nat × Nat × ByteArray)} (h : IsIt w a l) (hb : Below w.heap.size w w') : IsIt w' a l := by
  refine ⟨h.1, ?_⟩
  rcases h.2 with h0 | ⟨b, o, h1, h2⟩
  · exact .inl h0
  · have hk : ∀ (p : Addr) v, w.cell? p = some v → w'.cell? p = some v := fun p v hv => (hb.cell (World.block_lt_of_cell? w _ hv)).trans hv
    exact .inr ⟨b, o, h1, fun i hi => ⟨hk _ _ (h2 i hi).1, hk _ _ (h2 i hi).2.1, hk _ _ (h2 i hi).2.2⟩⟩
end Go.Proofs.Ytfbohbcokggmpaa.Oc
