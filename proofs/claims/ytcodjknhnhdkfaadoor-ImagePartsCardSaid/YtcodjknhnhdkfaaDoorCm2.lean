
/- rows that are read: what each one is, and the deferred closures -/
import Derived.Test.YtcodjknhnhdkfaaDoorCm1
import Derived.Defers
import Derived.Recover
namespace Go.Proofs.YtcodjknhnhdkfaaDoor.Cm
open Go.RowKit Go.Lib Wn Rf By
set_option linter.unusedVariables false
set_option maxRecDepth 20000
theorem flat_cut {E : Type} {enc : E → List UInt8} (inj : ∀ x y s t, enc x ++ s = enc y ++ t → x = y ∧ s = t) : ∀ (xs ys : List E) (s t : List UInt8), xs.length ≤ ys.length → xs.flatMap enc ++ s = ys.flatMap enc ++ t → s = (ys.drop xs.length).flatMap enc ++ t
  | [], ys, s, t, _, h => by simpa using h
  | x :: xs, [], s, t, hl, h => by simp at hl
  | x :: xs, y :: ys, s, t, hl, h => by
    simp only [List.flatMap_cons, List.append_assoc] at h
    have := flat_cut inj xs ys s t (by simpa using hl) (inj _ _ _ _ h).2
    simpa using this
theorem uvr_inj (x y : Nat) (s t : List UInt8) (h : uvarint x ++ s = uvarint y ++ t) : x = y ∧ s = t := Sp.uv_inj _ _ _ _ _ (Nat.le_refl _) h
theorem txr_inj (x y : ByteArray) (s t : List UInt8) (h : textB x ++ s = textB y ++ t) : x = y ∧ s = t := Sp.tx_inj h
def valI (x : Nat) : Value := .int .i64 (min x 8 : Nat)
theorem putSF_idle (p q : Addr) (w : World) :
    CallsD Tryd.prog 47 #[.pointer (some p), .pointer (some q)] .returning w fun e u' w' => e = .returned (.tuple #[]) ∧ u' = .returning ∧ w' = w := by
  refine callsD_of_wpS Tryd.func47 rfl fun c₀ cs hu => ?_
  apply wpS_seq
  apply wpS_region
  simp [wpOpsS, go_sem, recoverD, hu, Tryd.ntmps47, Exit.thenS]
  refine wpS_cond (t := false) (by simp [Act.eval, Array.replicate]) ?_
  simp only [Bool.false_eq_true, if_false]
  refine wpS_of_wp (wp_skip ?_)
  cases c₀
  simp_all [bodyPostS, results, Tryd.results47]
end Go.Proofs.YtcodjknhnhdkfaaDoor.Cm
