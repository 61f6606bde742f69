
/- an expression that came in, opened -/
import Derived.Test.YtjbfpllkgaialaaDoorCn8
import Derived.ProofKit
import Derived.OpenShut
import Derived.ChangeOld
import Derived.Lib.SmallJoins
namespace Go.Proofs.YtjbfpllkgaialaaDoor.Pex
set_option maxRecDepth 20000
open Go.ChangeShapes Go.WideShapes Go.ChangeAt Go.RowKit Go.Proofs.YtjbfpllkgaialaaDoor.Cn
section
variable {H : Type} {enc : TypeId × Value → H} {W : World}
theorem u64_one {base fuel : Nat} {v : Value} {x : DataW H × List MemPlace} (h : DataW.trod enc Tryd.prog W base (fun _ => true) true fuel 23 [v] = some x) : ∃ m : Nat, v = u m ∧ m < 18446744073709551616 := by
  obtain ⟨n, e, _, hw⟩ := DataW.trod_int Tryd.underlying23 h
  have h1 : 0 ≤ n ∧ n ≤ 18446744073709551615 := by simpa [Lit.wf, IntKind.min, IntKind.max, IntKind.signed, IntKind.bits] using hw
  refine ⟨n.toNat, ?_, by omega⟩
  rw [(List.cons.inj e).1]
  exact congrArg (Value.int .u64) (by omega)
theorem bool_one {base fuel : Nat} {v : Value} {x : DataW H × List MemPlace} (h : DataW.trod enc Tryd.prog W base (fun _ => true) true fuel 4 [v] = some x) : ∃ b : Bool, v = .bool b := by
  cases fuel with
  | zero => simp [DataW.trod] at h
  | succ n =>
    unfold DataW.trod at h
    rw [Tryd.underlying4] at h
    split at h <;> simp_all
theorem open_expr {r : Reach} {b0 base : Nat} {v : Value} {d : DataW H} {p : List MemPlace} (hv : Value.okWide Tryd.prog W r b0 25 v) (h : DataW.Trod enc Tryd.prog W base (fun _ => true) true 25 v d p) :
    ∃ e : Ex, v = exv e ∧ ExOk e := by
  obtain ⟨cs, rfl, hsz⟩ := okWide_struct Tryd.underlying25 hv
  obtain ⟨l⟩ := cs
  have hc : Tryd.prog.cellsOf 25 = 7 := by kernel_rfl
  match l, hsz.trans hc with
  | [c0, c1, c2, c3, c4, c5, c6], _ =>
    obtain ⟨fuel, hf⟩ := h
    obtain ⟨xs, n, _, _, _, hlen, hg⟩ := DataW.trod_struct Tryd.underlying25 hf
    have g0 := hg 0 _ rfl
    have g1 := hg 1 _ rfl
    have g2 := hg 2 _ rfl
    have g3 := hg 3 _ rfl
    have g4 := hg 4 _ rfl
    have g5 := hg 5 _ rfl
    have g6 := hg 6 _ rfl
    match xs, hlen with
    | [y0, y1, y2, y3, y4, y5, y6], _ =>
      obtain ⟨m0, rfl, b0⟩ := u64_one (show DataW.trod enc Tryd.prog W base (fun _ => true) true n 23 [c0] = some y0 from g0)
      obtain ⟨m1, rfl, b1⟩ := u64_one (show DataW.trod enc Tryd.prog W base (fun _ => true) true n 23 [c1] = some y1 from g1)
      obtain ⟨m2, rfl, b2⟩ := u64_one (show DataW.trod enc Tryd.prog W base (fun _ => true) true n 23 [c2] = some y2 from g2)
      obtain ⟨m3, rfl, b3⟩ := u64_one (show DataW.trod enc Tryd.prog W base (fun _ => true) true n 23 [c3] = some y3 from g3)
      obtain ⟨m4, rfl, b4⟩ := u64_one (show DataW.trod enc Tryd.prog W base (fun _ => true) true n 23 [c4] = some y4 from g4)
      obtain ⟨m5, rfl⟩ := bool_one (show DataW.trod enc Tryd.prog W base (fun _ => true) true n 4 [c5] = some y5 from g5)
      obtain ⟨m6, rfl⟩ := bool_one (show DataW.trod enc Tryd.prog W base (fun _ => true) true n 4 [c6] = some y6 from g6)
      exact ⟨⟨m0, m1, m2, m3, m4, m5, m6⟩, rfl, b0, b1, b2, b3, b4⟩
end
end Go.Proofs.YtjbfpllkgaialaaDoor.Pex
