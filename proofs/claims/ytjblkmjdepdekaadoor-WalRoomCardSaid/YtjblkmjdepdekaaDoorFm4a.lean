
/- frames: ahead of Next: rows of four bytes, held against each other -/
import Derived.Test.YtjblkmjdepdekaaDoorFm3
import Derived.Laws.Cover3
import Derived.ChangeKeysEq
namespace Go.Proofs.YtjblkmjdepdekaaDoor.Fm
open Go.RowKit Go.Lib Go.Proofs.YtjblkmjdepdekaaDoor.By Go.Proofs.YtjblkmjdepdekaaDoor.Oc Go.Proofs.YtjblkmjdepdekaaDoor.Cr

/-- two rows of four bytes, held against each other -/
theorem run_eq4 (a0 a1 a2 a3 b0 b1 b2 b3 : Int) (w : World) :
    (Op.equalIn 10000 98 (.agg #[.int .u8 a0, .int .u8 a1, .int .u8 a2, .int .u8 a3]) (.agg #[.int .u8 b0, .int .u8 b1, .int .u8 b2, .int .u8 b3])).run Tryd.prog w = .ok (a0 == b0 && (a1 == b1 && (a2 == b2 && a3 == b3))) w := by
  obtain ⟨i0, hi, _⟩ := info_parts info5
  have hc : Tryd.prog.cellsOf 5 = 1 := by kernel_rfl
  have hp : Tryd.prog.plainKey 5 = true := by kernel_rfl
  have pa : ∀ (k : Nat) (v : Value), #[Value.int .u8 a0, .int .u8 a1, .int .u8 a2, .int .u8 a3][k]? = some v → (part 5 #[Value.int .u8 a0, .int .u8 a1, .int .u8 a2, .int .u8 a3] k).run Tryd.prog w = .ok v w := fun k v h => run_part_plain w hp h
  have pb : ∀ (k : Nat) (v : Value), #[Value.int .u8 b0, .int .u8 b1, .int .u8 b2, .int .u8 b3][k]? = some v → (part 5 #[Value.int .u8 b0, .int .u8 b1, .int .u8 b2, .int .u8 b3] k).run Tryd.prog w = .ok v w := fun k v h => run_part_plain w hp h
  rw [run_equalIn_array w 9999 _ _ Tryd.underlying98 hi, hc]
  have e : List.range 4 = [0, 1, 2, 3] := rfl
  rw [e]
  simp only [Op.eqItems, Sem.run_bind, Nat.mul_one]
  have q0 := run_equalIn_int (P := Tryd.prog) w 9998 5 .u8 .u8 a0 b0 Tryd.underlying5
  have q1 := run_equalIn_int (P := Tryd.prog) w 9998 5 .u8 .u8 a1 b1 Tryd.underlying5
  have q2 := run_equalIn_int (P := Tryd.prog) w 9998 5 .u8 .u8 a2 b2 Tryd.underlying5
  have q3 := run_equalIn_int (P := Tryd.prog) w 9998 5 .u8 .u8 a3 b3 Tryd.underlying5
  have z : ∀ (b : Bool) (k : Sem Bool), (if (!b) = true then pure false else k : Sem Bool).run Tryd.prog w = if b then k.run Tryd.prog w else .ok false w := fun b k => by cases b <;> simp
  simp only [pa 0 (.int .u8 a0) rfl, pa 1 (.int .u8 a1) rfl, pa 2 (.int .u8 a2) rfl, pa 3 (.int .u8 a3) rfl, pb 0 (.int .u8 b0) rfl, pb 1 (.int .u8 b1) rfl, pb 2 (.int .u8 b2) rfl, pb 3 (.int .u8 b3) rfl, q0, q1, q2, q3, z, Sem.run_bind, Sem.run_pure, Result.andThen_ok]
  cases (a0 == b0) <;> cases (a1 == b1) <;> cases (a2 == b2) <;> cases (a3 == b3) <;> rfl
theorem le4_iff {b : List UInt8} {en x : Nat} (h : en + 4 ≤ b.length) : (b.drop en).take 4 = le4 x ↔ (b.getD en 0).toNat = x % 256 ∧ (b.getD (en + 1) 0).toNat = x / 256 % 256 ∧ (b.getD (en + 2) 0).toNat = x / 65536 % 256 ∧ (b.getD (en + 3) 0).toNat = x / 16777216 % 256 := by
  have e : (b.drop en).take 4 = [b.getD en 0, b.getD (en + 1) 0, b.getD (en + 2) 0, b.getD (en + 3) 0] := by
    apply List.ext_getElem
    · simp; omega
    · intro i h1 h2
      simp at h2
      rw [List.getElem_take, List.getElem_drop]
      match i, h2 with
      | 0, _ | 1, _ | 2, _ | 3, _ => simp [List.getD, show en < b.length by omega, show en + 1 < b.length by omega, show en + 2 < b.length by omega, show en + 3 < b.length by omega]
  rw [e]
  unfold le4
  simp only [List.cons.injEq, and_true]
  have key : ∀ (c : UInt8) (n : Nat), n < 256 → (c = n.toUInt8 ↔ c.toNat = n) := fun c n hn => by
    rw [← UInt8.toNat_inj, byte_nat hn]
  rw [key _ _ (by omega), key _ _ (by omega), key _ _ (by omega), key _ _ (by omega)]

end Go.Proofs.YtjblkmjdepdekaaDoor.Fm
