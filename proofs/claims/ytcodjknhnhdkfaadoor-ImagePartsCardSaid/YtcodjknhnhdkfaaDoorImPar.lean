
/- arguments that came in, opened: bytes -/
import Derived.Test.YtcodjknhnhdkfaaDoorBy
import Derived.Test.YtcodjknhnhdkfaaDoorOp
import Derived.ProofKit
import Derived.OpenShut
import Derived.ChangeOld
import Derived.Lib.SmallJoins
namespace Go.Proofs.YtcodjknhnhdkfaaDoor.Par
set_option maxRecDepth 20000
open Go.ChangeShapes Go.WideShapes Go.ChangeAt Go.RowKit Go.Proofs.YtcodjknhnhdkfaaDoor.By
section
variable {H : Type} {enc : TypeId × Value → H} {W : World}

theorem bytes_cell {base fuel : Nat} {cs : List Value} {x : DataW H × List MemPlace} (h : DataW.trod enc Tryd.prog W base (fun _ => true) true fuel 22 cs = some x) : ∃ a len cap l, cs = [.slice a len cap] ∧ IsB W a len cap l := by
  rcases open_ints Tryd.underlying22 Tryd.underlying5 (by kernel_rfl) h with ⟨hcs, _⟩ | ⟨x, l, c, zs, hcs, _, hl, hm, hz, _, hcell, hwz⟩
  · exact ⟨none, 0, 0, [], hcs, rfl, .inl ⟨rfl, rfl, rfl⟩⟩
  · obtain ⟨l', h'⟩ := isB_row (w := W) (a := some x) (len := l) (cap := c) (zs := zs) (.inr ⟨x, rfl, hl, hm, by simpa using hz, hcell, hwz⟩)
    exact ⟨some x, l, c, l', hcs, h'⟩
theorem open_bytes {r : Reach} {b0 base : Nat} {v : Value} {d : DataW H} {p : List MemPlace} (hv : Value.okWide Tryd.prog W r b0 22 v) (h : DataW.Trod enc Tryd.prog W base (fun _ => true) true 22 v d p) : ∃ a len cap l, v = .slice a len cap ∧ IsB W a len cap l := by
  obtain ⟨a, len, cap, rfl⟩ := okWide_slice Tryd.underlying22 hv
  obtain ⟨fuel, hf⟩ := h
  obtain ⟨a', len', cap', l, e, hib⟩ := bytes_cell hf
  have e' : Value.slice a len cap = .slice a' len' cap' := by simpa [Value.cells] using e
  exact ⟨a', len', cap', l, e', hib⟩
end
end Go.Proofs.YtcodjknhnhdkfaaDoor.Par
