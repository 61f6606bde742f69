
/- reading, told by what it means: with no error the bytes begin with what was read -/
import Derived.Test.YtcodjknhnhdkfaaDoorRw
import Derived.Test.YtcodjknhnhdkfaaDoorSpM
namespace Go.Proofs.YtcodjknhnhdkfaaDoor.Cm
open Go.RowKit Go.Lib Wn Rf By
set_option linter.unusedVariables false
set_option maxRecDepth 20000
theorem dec_back : ∀ (l : List UInt8) (k X : Nat), (dec k X l).2.2 = 0 → ∃ y, (dec k X l).1 = X + y * 128 ^ k ∧ l = uvarint y ++ (dec k X l).2.1 ∧ (0 < k → 0 < y)
  | [], k, X, h => by simp [dec] at h
  | b :: t, k, X, h => by
    have hb := b.toNat_lt
    by_cases h1 : (k = 9 ∧ 1 < b.toNat) ∨ (0 < k ∧ b.toNat = 0)
    · rw [dec_bad h1] at h; simp at h
    · by_cases h2 : b.toNat < 128
      · rw [dec_last h1 h2]
        refine ⟨b.toNat, by rw [Nat.mod_eq_of_lt h2], ?_, fun hk => by omega⟩
        rw [uvarint_small h2]
        simp
      · rw [dec_more h1 h2] at h ⊢
        obtain ⟨y, e1, e2, e3⟩ := dec_back t (k + 1) _ h
        have hy := e3 (Nat.succ_pos k)
        refine ⟨b.toNat % 128 + y * 128, ?_, ?_, fun _ => by omega⟩
        · rw [e1, Nat.pow_succ, Nat.add_mul, Nat.add_assoc]
          congr 2
          rw [Nat.mul_comm (128 ^ k), Nat.mul_assoc]
        · rw [uvarint_big (by omega), List.cons_append]
          have q1 : (b.toNat % 128 + y * 128) % 128 + 128 = b.toNat := by omega
          have q2 : (b.toNat % 128 + y * 128) / 128 = y := by omega
          rw [q1, q2, ← e2]
          simp
theorem dec_back0 {l : List UInt8} (h : (dec 0 0 l).2.2 = 0) : l = uvarint (dec 0 0 l).1 ++ (dec 0 0 l).2.1 := by
  obtain ⟨y, e1, e2, _⟩ := dec_back l 0 0 h
  have : (dec 0 0 l).1 = y := by rw [e1]; simp
  rw [this]; exact e2
theorem zig_unzig (n : Nat) : zigzag (unzig n) = n := by
  unfold unzig zigzag
  split <;> split <;> omega
theorem unzig_w {n : Nat} (h : U64 n) : Sp.W64 (unzig n) := by
  unfold U64 at h
  unfold Sp.W64 unzig
  simp [Lit.wf, IntKind.min, IntKind.max, IntKind.signed, IntKind.bits]
  split <;> omega
theorem cnt_back {m : Nat} {l : List UInt8} (h : (cnt m l).2.2 = 0) : (cnt m l).1 ≤ m ∧ l = uvarint (cnt m l).1 ++ (cnt m l).2.1 := by
  refine ⟨cnt_le m l, ?_⟩
  unfold cnt at h ⊢
  split
  · rename_i hc
    rw [if_pos hc] at h
    exact dec_back0 h
  · rename_i hc
    rw [if_neg hc] at h
    simp at h
/-- but for the reader's block nothing that was there has turned -/
structure Ar (rb : Nat) (w w' : World) : Prop where
  os : w'.os = w.os
  tape : w'.tape = w.tape
  output : w'.output = w.output
  size : w.heap.size ≤ w'.heap.size
  block : ∀ k, k < w.heap.size → k ≠ rb → w'.heap[k]? = w.heap[k]?
theorem Ar.refl (rb : Nat) (w : World) : Ar rb w w := ⟨rfl, rfl, rfl, Nat.le_refl _, fun _ _ _ => rfl⟩
theorem _root_.Go.Proofs.YtcodjknhnhdkfaaDoor.Wn.At.ar {rb : Nat} {a b : World} (h : At rb a b) : Ar rb a b := ⟨h.os, h.tape, h.output, Nat.le_of_eq h.size.symm, fun k _ hk => h.block k hk⟩
theorem Ar.trans {rb : Nat} {a b c : World} (h : Ar rb a b) (k : Ar rb b c) : Ar rb a c :=
  ⟨k.os.trans h.os, k.tape.trans h.tape, k.output.trans h.output, Nat.le_trans h.size k.size, fun i hi hn => (k.block i (Nat.lt_of_lt_of_le hi h.size) hn).trans (h.block i hi hn)⟩
theorem Ar.below {rb N : Nat} {a b : World} (h : Ar rb a b) (hN : N ≤ rb) (hs : N ≤ a.heap.size) : Below N a b :=
  ⟨h.os, h.tape, h.output, h.size, fun k hk => h.block k (by omega) (by omega)⟩
theorem Ar.ofBelow {rb : Nat} {a b : World} (h : Below a.heap.size a b) : Ar rb a b := ⟨h.os, h.tape, h.output, h.size, fun k hk _ => h.block k hk⟩
end Go.Proofs.YtcodjknhnhdkfaaDoor.Cm
