
/- a moment that came in, opened -/
import Derived.Test.YtipcfdiibbehbaaCa1
import Derived.ProofKit
import Derived.OpenShut
import Derived.ChangeOld
import Derived.Lib.SmallJoins
namespace Go.Proofs.Ytipcfdiibbehbaa.CaP
set_option maxRecDepth 20000
open Go.ChangeShapes Go.WideShapes Go.ChangeAt Go.RowKit Go.Proofs.Ytipcfdiibbehbaa.Ca
section
variable {H : Type} {enc : TypeId × Value → H} {W : World}
/-- a moment's six numbers -/
structure Mo where
  y : Int
  mo : Int
  d : Int
  wd : Int
  h : Int
  mi : Int
def Mo.ok (m : Mo) : Prop := I64 m.y ∧ I64 m.mo ∧ I64 m.d ∧ I64 m.wd ∧ I64 m.h ∧ I64 m.mi
theorem int_one {base fuel : Nat} {v : Value} {x : DataW H × List MemPlace} (h : DataW.trod enc Try.prog W base (fun _ => true) true fuel 3 [v] = some x) : ∃ m : Int, v = .int .i64 m ∧ I64 m := by
  obtain ⟨n, e, _, hw⟩ := DataW.trod_int Try.underlying3 h
  exact ⟨n, (List.cons.inj e).1, by simpa [I64, Lit.wf, IntKind.min, IntKind.max, IntKind.signed, IntKind.bits] using hw⟩
theorem open_mom {r : Reach} {b0 base : Nat} {v : Value} {d : DataW H} {p : List MemPlace} (hv : Value.okWide Try.prog W r b0 23 v) (h : DataW.Trod enc Try.prog W base (fun _ => true) true 23 v d p) :
    ∃ m : Mo, v = .agg #[.int .i64 m.y, .int .i64 m.mo, .int .i64 m.d, .int .i64 m.wd, .int .i64 m.h, .int .i64 m.mi] ∧ m.ok := by
  obtain ⟨cs, rfl, hsz⟩ := okWide_struct Try.underlying23 hv
  obtain ⟨l⟩ := cs
  have hc : Try.prog.cellsOf 23 = 6 := by kernel_rfl
  match l, hsz.trans hc with
  | [c0, c1, c2, c3, c4, c5], _ =>
    obtain ⟨fuel, hf⟩ := h
    obtain ⟨xs, n, _, _, _, hlen, hg⟩ := DataW.trod_struct Try.underlying23 hf
    have g0 := hg 0 _ rfl
    have g1 := hg 1 _ rfl
    have g2 := hg 2 _ rfl
    have g3 := hg 3 _ rfl
    have g4 := hg 4 _ rfl
    have g5 := hg 5 _ rfl
    match xs, hlen with
    | [y0, y1, y2, y3, y4, y5], _ =>
      obtain ⟨m0, rfl, b0⟩ := int_one (show DataW.trod enc Try.prog W base (fun _ => true) true n 3 [c0] = some y0 from g0)
      obtain ⟨m1, rfl, b1⟩ := int_one (show DataW.trod enc Try.prog W base (fun _ => true) true n 3 [c1] = some y1 from g1)
      obtain ⟨m2, rfl, b2⟩ := int_one (show DataW.trod enc Try.prog W base (fun _ => true) true n 3 [c2] = some y2 from g2)
      obtain ⟨m3, rfl, b3⟩ := int_one (show DataW.trod enc Try.prog W base (fun _ => true) true n 3 [c3] = some y3 from g3)
      obtain ⟨m4, rfl, b4⟩ := int_one (show DataW.trod enc Try.prog W base (fun _ => true) true n 3 [c4] = some y4 from g4)
      obtain ⟨m5, rfl, b5⟩ := int_one (show DataW.trod enc Try.prog W base (fun _ => true) true n 3 [c5] = some y5 from g5)
      exact ⟨⟨m0, m1, m2, m3, m4, m5⟩, rfl, b0, b1, b2, b3, b4, b5⟩
end
end Go.Proofs.Ytipcfdiibbehbaa.CaP
