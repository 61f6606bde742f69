
/- the document's Read of a number -/
import Derived.Test.YtjblkmjdepdekaaDoorRm
import Derived.LoopN
namespace Go.Proofs.YtjblkmjdepdekaaDoor.Fm
open Go.RowKit Go.Lib Go.Proofs.YtjblkmjdepdekaaDoor.By Go.Proofs.YtjblkmjdepdekaaDoor.Oc

/-- sevens of bits, the lowest first -/
def val : List UInt8 → Nat
  | [] => 0
  | c :: t => c.toNat % 128 + 128 * val t
theorem val_snoc : ∀ (a : List UInt8) (c : UInt8), val (a ++ [c]) = val a + c.toNat % 128 * 128 ^ a.length
  | [], c => by simp [val]
  | d :: a, c => by
    show d.toNat % 128 + 128 * val (a ++ [c]) = d.toNat % 128 + 128 * val a + c.toNat % 128 * 128 ^ (a.length + 1)
    rw [val_snoc a c, Nat.pow_succ, Nat.mul_add, Nat.add_assoc]
    congr 2
    rw [← Nat.mul_assoc, Nat.mul_comm 128, Nat.mul_assoc, Nat.mul_comm 128]
theorem val_lt : ∀ l : List UInt8, val l < 128 ^ l.length
  | [] => by simp [val]
  | c :: t => by
    have := val_lt t
    show c.toNat % 128 + 128 * val t < 128 ^ (t.length + 1)
    rw [Nat.pow_succ]; omega
theorem val_drop (l : List UInt8) : ∀ i, val (l.drop i) ≤ val l := by
  intro i
  induction i generalizing l with
  | zero => simp
  | succ i ih =>
    cases l with
    | nil => simp [val]
    | cons c t =>
      have := ih t
      show val (t.drop i) ≤ c.toNat % 128 + 128 * val t
      omega
theorem val_at {l : List UInt8} {i : Nat} (h : i < l.length) : val (l.drop i) = (l.getD i 0).toNat % 128 + 128 * val (l.drop (i + 1)) := by
  rw [List.drop_eq_getElem_cons h]
  show l[i].toNat % 128 + 128 * val (l.drop (i + 1)) = _
  simp [List.getD, h]

/-- what the document's Read tells -/
def rdr (l : List UInt8) : Nat × Nat × Int := if (dec 0 0 l).2.2 = 0 then ((dec 0 0 l).1, l.length - (dec 0 0 l).2.1.length, 0) else (0, 0, (dec 0 0 l).2.2)

end Go.Proofs.YtjblkmjdepdekaaDoor.Fm
