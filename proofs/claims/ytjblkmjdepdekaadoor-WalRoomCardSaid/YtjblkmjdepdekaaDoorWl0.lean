
/- logs: the plain mathematics of turns and sectors -/
import Derived.Test.YtjblkmjdepdekaaDoorDkC
import Derived.Test.YtjblkmjdepdekaaDoorDkB
import Derived.Test.YtjblkmjdepdekaaDoorFmU
namespace Go.Proofs.YtjblkmjdepdekaaDoor.Wl
open Go.RowKit Go.Lib Go.Proofs.YtjblkmjdepdekaaDoor.By Go.Proofs.YtjblkmjdepdekaaDoor.Dk Go.Proofs.YtjblkmjdepdekaaDoor.Oc

/-- bytes as a number, the lowest first; a number as so many bytes -/
def unl : List UInt8 → Nat
  | [] => 0
  | b :: r => b.toNat + 256 * unl r
def lel : Nat → Nat → List UInt8
  | 0, _ => []
  | k + 1, t => UInt8.ofNat (t % 256) :: lel k (t / 256)
theorem lel_len : ∀ k t, (lel k t).length = k
  | 0, _ => rfl
  | k + 1, t => by simp [lel, lel_len k]
theorem unl_lt : ∀ l : List UInt8, unl l < 256 ^ l.length
  | [] => by simp [unl]
  | b :: r => by
    have := unl_lt r
    have hb := b.toNat_lt
    simp only [unl, List.length_cons, Nat.pow_succ]
    omega
theorem unl_snoc : ∀ (l : List UInt8) (b : UInt8), unl (l ++ [b]) = unl l + b.toNat * 256 ^ l.length
  | [], b => by simp [unl]
  | a :: l, b => by
    have := unl_snoc l b
    simp only [List.cons_append, unl, this, List.length_cons, Nat.pow_succ]
    rw [Nat.mul_add, ← Nat.add_assoc]
    congr 1
    rw [Nat.mul_comm 256, Nat.mul_assoc]
theorem unl_lel : ∀ k t, t < 256 ^ k → unl (lel k t) = t
  | 0, t, h => by simp at h; simp [lel, unl, h]
  | k + 1, t, h => by
    rw [Nat.pow_succ] at h
    have := unl_lel k (t / 256) (Nat.div_lt_of_lt_mul (by omega))
    simp only [lel, unl, this]
    rw [UInt8.toNat_ofNat']
    omega
theorem lel_snoc : ∀ k t, lel (k + 1) t = lel k t ++ [UInt8.ofNat (t / 256 ^ k % 256)]
  | 0, t => by simp [lel]
  | k + 1, t => by
    have := lel_snoc k (t / 256)
    rw [lel, this, lel, List.cons_append, Nat.div_div_eq_div_mul, Nat.pow_succ, Nat.mul_comm]
theorem le8_u64 {t : Nat} (h : U64 t) : unl (lel 8 t) = t := unl_lel 8 t (by unfold U64 at h; simpa using h)
theorem unl8_u64 {l : List UInt8} (h : l.length = 8) : U64 (unl l) := by
  have := unl_lt l; rw [h] at this; unfold U64; simpa using this
/-- a sector's turn, and how many of its bytes count -/
def trn (s : List UInt8) : Nat := unl (s.take 8)
def ctn (s : List UInt8) : Nat := (s.getD 8 0).toNat
/-- the sector of a turn, and of bytes that count -/
def secB (t : Nat) (b : List UInt8) : List UInt8 := full (lel 8 t ++ UInt8.ofNat b.length :: b)
theorem secB_len {t : Nat} {b : List UInt8} (h : b.length ≤ 55) : (secB t b).length = 64 := by
  unfold secB; exact length_full (by simp [lel_len]; omega)
theorem trn_secB {t : Nat} {b : List UInt8} (ht : U64 t) : trn (secB t b) = t := by
  have e : (secB t b).take 8 = lel 8 t := by
    unfold secB full
    rw [List.append_assoc]
    exact List.take_left' (lel_len 8 t)
  unfold trn; rw [e, le8_u64 ht]
theorem ctn_secB {t : Nat} {b : List UInt8} (h : b.length ≤ 55) : ctn (secB t b) = b.length := by
  have e : (secB t b).getD 8 0 = UInt8.ofNat b.length := by
    unfold secB full
    rw [List.append_assoc, List.getD_eq_getElem?_getD, List.getElem?_append_right (by rw [lel_len]; exact Nat.le_refl _), lel_len]
    rfl
  unfold ctn; rw [e, UInt8.toNat_ofNat']; omega
theorem bytes_secB {t : Nat} {b : List UInt8} : ((secB t b).drop 9).take b.length = b := by
  unfold secB full
  rw [List.append_assoc, show 9 = (lel 8 t).length + 1 by rw [lel_len], ← List.drop_drop, List.drop_left, List.cons_append, List.drop_succ_cons, List.drop_zero, List.take_left]
end Go.Proofs.YtjblkmjdepdekaaDoor.Wl
