
/- reading, told by what it means: with no error the bytes begin with what was read -/
import Derived.Test.YtfidmjpjfigmcaaRw
import Derived.Test.YtfidmjpjfigmcaaSpM
namespace Go.Proofs.Ytfidmjpjfigmcaa.Cm
open Go.RowKit Go.Lib Wn Rf By
set_option linter.unusedVariables false
set_option maxRecDepth 20000
theorem dec_back : ∀ (l : List UInt8) (k X : Nat), (dec k X l).2.2 = 0 → ∃ y, (dec k X l).1 = X + y * 128 ^ k ∧ l = uvarint y ++ (dec k X l).2.1 ∧ (0 < k → 0 < y)
  | [], k, X, h => by simp [dec] at h
  | b :: t, k, X, h => by
    have hb := b.toNat_lt
    by_cases h1 : (k = 9 ∧ 1 < b.toNat) ∨ (0 < k ∧ b.toNat = 0)
    · rw [dec_bad h1] at h; simp at h
    · by_cases h2 : b.toNat < 128
      · rw [dec_last h1 h2]
        refine ⟨b.toNat, by rw [Nat.mod_eq_of_lt h2], ?_, fun hk => by omega⟩
        rw [uvarint_small h2]
        simp
      · rw [dec_more h1 h2] at h ⊢
        obtain ⟨y, e1, e2, e3⟩ := dec_back t (k + 1) _ h
        have hy := e3 (Nat.succ_pos k)
        refine ⟨b.toNat % 128 + y * 128, ?_, ?_, fun _ => by omega⟩
        · rw [e1, Nat.pow_succ, Nat.add_mul, Nat.add_assoc]
          congr 2
          rw [Nat.mul_comm (128 ^ k), Nat.mul_assoc]
        · rw [uvarint_big (by omega), List.cons_append]
          have q1 : (b.toNat % 128 + y * 128) % 128 + 128 = b.toNat := by omega
          have q2 : (b.toNat % 128 + y * 128) / 128 = y := by omega
          rw [q1, q2, ← e2]
          simp
theorem dec_back0 {l : List UInt8} (h : (dec 0 0 l).2.2 = 0) : l = uvarint (dec 0 0 l).1 ++ (dec 0 0 l).2.1 := by
  obtain ⟨y, e1, e2, _⟩ := dec_back l 0 0 h
  have : (dec 0 0 l).1 = y := by rw [e1]; simp
  rw [this]; exact e2
theorem zig_unzig (n : Nat) : zigzag (unzig n) = n := by
  unfold unzig zigzag
  split <;> split <;> omega
theorem unzig_w {n : Nat} (h : U64 n) : Sp.W64 (unzig n) := by
  unfold U64 at h
  unfold Sp.W64 unzig
  simp [Lit.wf, IntKind.min, IntKind.max, IntKind.signed, IntKind.bits]
  split <;> omega
theorem num_r (rb : Nat) (l : List UInt8) (er : Int) (w : World) (h : Rd w rb l er) :
    Calls Try.prog 18 #[.pointer (some ⟨rb, 0, none⟩)] w fun e w' => ∃ (x : Nat) (l' : List UInt8) (er' : Int), e = .returned (.int .u64 x) ∧ U64 x ∧ Rd w' rb l' er' ∧ At rb w w' ∧
      (er' = 0 → er = 0 ∧ l = uvarint x ++ l') ∧ ∀ y t, er = 0 → U64 y → l = uvarint y ++ t → er' = 0 := by
  by_cases he : er = 0
  · subst he
    refine (num_ok rb l w h).mono ?_
    rintro e w' ⟨rfl, hr, hA⟩
    refine ⟨_, _, _, rfl, dec_u64 l 0 0 (by omega) (by decide), hr, hA, fun h0 => ⟨rfl, dec_back0 h0⟩, ?_⟩
    rintro y t _ hy rfl
    rw [dec_uv0 hy]
  · refine (num_err rb l er w h he).mono ?_
    rintro e w' ⟨rfl, rfl⟩
    exact ⟨0, l, er, rfl, (by unfold U64; decide), h, At.refl _ _, fun h0 => absurd h0 he, fun _ _ h0 => absurd h0 he⟩
theorem int_r (rb : Nat) (l : List UInt8) (er : Int) (w : World) (h : Rd w rb l er) :
    Calls Try.prog 41 #[.pointer (some ⟨rb, 0, none⟩)] w fun e w' => ∃ (x : Int) (l' : List UInt8) (er' : Int), e = .returned (.int .i64 x) ∧ Sp.W64 x ∧ Rd w' rb l' er' ∧ At rb w w' ∧
      (er' = 0 → er = 0 ∧ l = Sp.zz x ++ l') := by
  by_cases he : er = 0
  · subst he
    refine (rint_ok rb l w h).mono ?_
    rintro e w' ⟨rfl, hr, hA⟩
    refine ⟨_, _, _, rfl, unzig_w (dec_u64 l 0 0 (by omega) (by decide)), hr, hA, fun h0 => ⟨rfl, ?_⟩⟩
    unfold Sp.zz
    rw [zig_unzig]
    exact dec_back0 h0
  · refine (rint_err rb l er w h he).mono ?_
    rintro e w' ⟨rfl, rfl⟩
    exact ⟨0, l, er, rfl, (by unfold Sp.W64; decide), h, At.refl _ _, fun h0 => absurd h0 he⟩
theorem cnt_back {m : Nat} {l : List UInt8} (h : (cnt m l).2.2 = 0) : (cnt m l).1 ≤ m ∧ l = uvarint (cnt m l).1 ++ (cnt m l).2.1 := by
  refine ⟨cnt_le m l, ?_⟩
  unfold cnt at h ⊢
  split
  · rename_i hc
    rw [if_pos hc] at h
    exact dec_back0 h
  · rename_i hc
    rw [if_neg hc] at h
    simp at h
theorem count_r (rb : Nat) (l : List UInt8) (er : Int) (m : Nat) (w : World) (h : Rd w rb l er) (hm : m ≤ 1000000000000) :
    Calls Try.prog 47 #[.pointer (some ⟨rb, 0, none⟩), .int .i64 m] w fun e w' => ∃ (x : Nat) (l' : List UInt8) (er' : Int), e = .returned (.int .i64 x) ∧ x ≤ m ∧ Rd w' rb l' er' ∧ At rb w w' ∧
      (er' = 0 → er = 0 ∧ l = uvarint x ++ l') ∧ (er' ≠ 0 → x = 0) ∧ ∀ y t, er = 0 → y ≤ m → l = uvarint y ++ t → er' = 0 := by
  by_cases he : er = 0
  · subst he
    refine (count_ok rb l m w h hm).mono ?_
    rintro e w' ⟨rfl, hr, hA⟩
    refine ⟨_, _, _, rfl, cnt_le m l, hr, hA, fun h0 => ⟨rfl, (cnt_back h0).2⟩, fun h0 => (cnt_zero m l h0).1, ?_⟩
    rintro y t _ hy rfl
    have hu : U64 y := by unfold U64; omega
    unfold cnt
    rw [dec_uv0 hu, if_pos hy]
  · refine (count_err rb l er m w h he hm).mono ?_
    rintro e w' ⟨rfl, rfl⟩
    exact ⟨0, l, er, rfl, Nat.zero_le _, h, At.refl _ _, fun h0 => absurd h0 he, fun _ => rfl, fun _ _ h0 => absurd h0 he⟩
theorem text_r (rb : Nat) (l : List UInt8) (er : Int) (m : Nat) (w : World) (h : Rd w rb l er) (hm : m ≤ 1000000000000) :
    Calls Try.prog 40 #[.pointer (some ⟨rb, 0, none⟩), .int .i64 m] w fun e w' => ∃ (s : ByteArray) (l' : List UInt8) (er' : Int), e = .returned (.string s) ∧ s.size ≤ m ∧ Rd w' rb l' er' ∧ At rb w w' ∧
      (er' = 0 → er = 0 ∧ l = textB s ++ l') := by
  by_cases he : er = 0
  · subst he
    refine (text_ok rb l m w h hm).mono ?_
    rintro e w' ⟨rfl, hr, hA⟩
    refine ⟨_, _, _, rfl, ?_, hr, hA, fun h0 => ⟨rfl, ?_⟩⟩
    · have := cnt_le m l
      unfold txt
      split
      · exact Nat.zero_le _
      · rw [bytes_size, List.length_take]; omega
    · unfold txt at h0 ⊢
      split
      · rename_i hc
        rw [if_pos hc] at h0
        simp at h0
      · rename_i hc
        rw [if_neg hc] at h0
        have hb := (cnt_back h0).2
        have hs : ((cnt m l).2.1.take (cnt m l).1).length = (cnt m l).1 := by rw [List.length_take]; omega
        unfold textB
        rw [bytes_size, hs, List.append_assoc]
        show l = uvarint _ ++ ((cnt m l).2.1.take _ ++ _)
        rw [List.take_append_drop]
        exact hb
  · refine (text_err rb l er m w h he hm).mono ?_
    rintro e w' ⟨rfl, rfl⟩
    exact ⟨⟨#[]⟩, l, er, rfl, Nat.zero_le _, h, At.refl _ _, fun h0 => absurd h0 he⟩
/-- but for the reader's block nothing that was there has turned -/
structure Ar (rb : Nat) (w w' : World) : Prop where
  os : w'.os = w.os
  tape : w'.tape = w.tape
  output : w'.output = w.output
  size : w.heap.size ≤ w'.heap.size
  block : ∀ k, k < w.heap.size → k ≠ rb → w'.heap[k]? = w.heap[k]?
theorem Ar.refl (rb : Nat) (w : World) : Ar rb w w := ⟨rfl, rfl, rfl, Nat.le_refl _, fun _ _ _ => rfl⟩
theorem _root_.Go.Proofs.Ytfidmjpjfigmcaa.Wn.At.ar {rb : Nat} {a b : World} (h : At rb a b) : Ar rb a b := ⟨h.os, h.tape, h.output, Nat.le_of_eq h.size.symm, fun k _ hk => h.block k hk⟩
theorem Ar.trans {rb : Nat} {a b c : World} (h : Ar rb a b) (k : Ar rb b c) : Ar rb a c :=
  ⟨k.os.trans h.os, k.tape.trans h.tape, k.output.trans h.output, Nat.le_trans h.size k.size, fun i hi hn => (k.block i (Nat.lt_of_lt_of_le hi h.size) hn).trans (h.block i hi hn)⟩
theorem Ar.below {rb N : Nat} {a b : World} (h : Ar rb a b) (hN : N ≤ rb) (hs : N ≤ a.heap.size) : Below N a b :=
  ⟨h.os, h.tape, h.output, h.size, fun k hk => h.block k (by omega) (by omega)⟩
theorem Ar.ofBelow {rb : Nat} {a b : World} (h : Below a.heap.size a b) : Ar rb a b := ⟨h.os, h.tape, h.output, h.size, fun k hk _ => h.block k hk⟩
end Go.Proofs.Ytfidmjpjfigmcaa.Cm
