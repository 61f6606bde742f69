
/- acts that came in, opened -/
import Derived.Test.YtpeapbhhlfbolaaHeapPlaysW
import Derived.Test.YtpeapbhhlfbolaaOp
import Derived.ProofKit
import Derived.OpenShut
import Derived.ChangeOld
namespace Go.Proofs.Ytpeapbhhlfbolaa.HpPa
set_option maxRecDepth 20000
open Go.ChangeShapes Go.WideShapes Go.ChangeAt Go.RowKit
section
variable {H : Type} {enc : TypeId × Value → H} {W : World}
theorem oneAct : Go.Deep.oneCellFields Try.prog #[⟨ "Kind", 3, 0, false, "", "", 0⟩, ⟨ "Key", 5, 1, false, "", "", 8⟩, ⟨ "Rank", 3, 2, false, "", "", 16⟩] = true := by kernel_rfl
theorem open_acts {r : Reach} {b0 base : Nat} {v : Value} {d : DataW H} {p : List MemPlace} (hv : Value.okWide Try.prog W r b0 22 v) (h : DataW.Trod enc Try.prog W base (fun _ => true) true 22 v d p) :
    ∃ a n c, ∃ _ : Unit, v = .slice a n c ∧ HpA.InA W a n c := by
  obtain ⟨a, len, cap, rfl⟩ := okWide_slice Try.underlying22 hv
  obtain ⟨fuel, hf⟩ := h
  simp only [Value.cells] at hf
  obtain ⟨hl, hm, h⟩ := Op.slice_fields Try.underlying22 Try.underlying28 oneAct (by kernel_rfl) (by decide) hf
  have hm' : cap ≤ 9223372036854775807 := by unfold maxLen at hm; omega
  refine ⟨a, len, cap, (), rfl, hl, hm', ?_⟩
  rcases h with h0 | ⟨b, o, rfl, h⟩
  · exact .inl h0
  · refine .inr ⟨b, o, rfl, fun i hi => ?_⟩
    obtain ⟨v0, n0, y0, c0, t0⟩ := h i hi 0 _ rfl
    obtain ⟨v1, n1, y1, c1, t1⟩ := h i hi 1 _ rfl
    obtain ⟨v2, n2, y2, c2, t2⟩ := h i hi 2 _ rfl
    obtain ⟨m0, e0, _, w0⟩ := DataW.trod_int Try.underlying3 t0
    obtain ⟨m1, e1, _, w1⟩ := DataW.trod_int Try.underlying5 t1
    obtain ⟨m2, e2, _, w2⟩ := DataW.trod_int Try.underlying3 t2
    simp only [List.cons.injEq, and_true] at e0 e1 e2
    subst e0 e1 e2
    have b1 : 0 ≤ m1 ∧ m1 ≤ 255 := by simpa [Lit.wf, IntKind.min, IntKind.max, IntKind.signed, IntKind.bits] using w1
    exact ⟨m0, m1, m2, ⟨b1.1, by omega⟩, c0, c1, c2⟩
end
end Go.Proofs.Ytpeapbhhlfbolaa.HpPa
