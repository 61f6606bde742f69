/- acts that came in, opened -/
import Derived.Test.YtoafohckodfjeaaDkA
import Derived.Test.YtoafohckodfjeaaOp
import Derived.ProofKit
import Derived.OpenShut
import Derived.ChangeOld
namespace Go.Proofs.Ytoafohckodfjeaa.Par4
open Go.ChangeShapes Go.WideShapes Go.ChangeAt Go.RowKit Go.Proofs.Ytoafohckodfjeaa.By Go.Proofs.Ytoafohckodfjeaa.Dk
instance : Inhabited Act4 := ⟨⟨0, 0, 0, none, 0, [], 0⟩⟩
section
variable {H : Type} {enc : TypeId × Value → H} {W : World}
theorem bytes_cell {base fuel : Nat} {cs : List Value} {x : DataW H × List MemPlace} (h : DataW.trod enc Try.prog W base (fun _ => true) true fuel 30 cs = some x) : ∃ a len cap l, cs = [.slice a len cap] ∧ IsB W a len cap l := by
  rcases open_ints Try.underlying30 Try.underlying5 (by kernel_rfl) h with ⟨hcs, _⟩ | ⟨x, l, c, zs, hcs, _, hl, hm, hz, _, hcell, hwz⟩
  · exact ⟨none, 0, 0, [], hcs, rfl, .inl ⟨rfl, rfl, rfl⟩⟩
  · obtain ⟨l', h'⟩ := isB_row (w := W) (a := some x) (len := l) (cap := c) (zs := zs) (.inr ⟨x, rfl, hl, hm, by simpa using hz, hcell, hwz⟩)
    exact ⟨some x, l, c, l', hcs, h'⟩
theorem oneAct : Go.Deep.oneCellFields Try.prog #[⟨ "Kind", 3, 0, false, "", "", 0⟩, ⟨ "At", 3, 1, false, "", "", 8⟩, ⟨ "N", 3, 2, false, "", "", 16⟩, ⟨ "B", 30, 3, false, "", "", 24⟩, ⟨ "Keep", 23, 4, false, "", "", 48⟩] = true := by kernel_rfl
theorem u64_cell {base fuel : Nat} {cs : List Value} {x : DataW H × List MemPlace} (h : DataW.trod enc Try.prog W base (fun _ => true) true fuel 23 cs = some x) : ∃ m : Nat, cs = [.int .u64 (m : Nat)] ∧ m ≤ 18446744073709551615 := by
  obtain ⟨n, e, _, hw⟩ := DataW.trod_int Try.underlying23 h
  have h : IntKind.u64.min ≤ n ∧ n ≤ IntKind.u64.max := by simpa [Lit.wf] using hw
  have h0 : 0 ≤ n := h.1
  have h1 : n ≤ 18446744073709551615 := h.2
  exact ⟨n.toNat, by rw [show (((n.toNat : Nat)) : Int) = n by omega]; exact e, by omega⟩
theorem open_u64 {r : Reach} {b0 base : Nat} {v : Value} {d : DataW H} {p : List MemPlace} (hv : Value.okWide Try.prog W r b0 23 v) (h : DataW.Trod enc Try.prog W base (fun _ => true) true 23 v d p) : ∃ m : Nat, v = .int .u64 (m : Nat) ∧ m ≤ 18446744073709551615 := by
  obtain ⟨n, rfl⟩ := okWide_int Try.underlying23 hv
  obtain ⟨fuel, hf⟩ := h
  simpa [Value.cells] using u64_cell hf
theorem open_acts {r : Reach} {b0 base : Nat} {v : Value} {d : DataW H} {p : List MemPlace} (hv : Value.okWide Try.prog W r b0 22 v) (h : DataW.Trod enc Try.prog W base (fun _ => true) true 22 v d p) :
    ∃ a len cap, ∃ L : List Act4, v = .slice a len cap ∧ L.length = len ∧ len ≤ cap ∧ cap ≤ 9223372036854775807 ∧ IsActs W a L := by
  obtain ⟨a, len, cap, rfl⟩ := okWide_slice Try.underlying22 hv
  obtain ⟨fuel, hf⟩ := h
  simp only [Value.cells] at hf
  obtain ⟨hl, hm, h⟩ := Op.slice_fields Try.underlying22 Try.underlying32 oneAct (by kernel_rfl) (by decide) hf
  have hm' : cap ≤ 9223372036854775807 := by unfold maxLen at hm; omega
  rcases h with h0 | ⟨b, o, rfl, h⟩
  · exact ⟨a, len, cap, [], rfl, h0.symm, hl, hm', .inl rfl⟩
  · have key : ∀ i, i < len → ∃ x : Act4, ActAt W b o i x := by
      intro i hi
      obtain ⟨v0, n0, y0, c0, t0⟩ := h i hi 0 _ rfl
      obtain ⟨v1, n1, y1, c1, t1⟩ := h i hi 1 _ rfl
      obtain ⟨v2, n2, y2, c2, t2⟩ := h i hi 2 _ rfl
      obtain ⟨v3, n3, y3, c3, t3⟩ := h i hi 3 _ rfl
      obtain ⟨v4, n4, y4, c4, t4⟩ := h i hi 4 _ rfl
      obtain ⟨m0, e0, _, w0⟩ := DataW.trod_int Try.underlying3 t0
      obtain ⟨m1, e1, _, w1⟩ := DataW.trod_int Try.underlying3 t1
      obtain ⟨m2, e2, _, w2⟩ := DataW.trod_int Try.underlying3 t2
      obtain ⟨a', len', cap', l, e3, hib⟩ := bytes_cell t3
      obtain ⟨m4, e4, _, w4⟩ := DataW.trod_int Try.underlying23 t4
      simp only [List.cons.injEq, and_true] at e0 e1 e2 e3 e4
      subst e0 e1 e2 e3 e4
      obtain rfl : l.length = len' := hib.1
      have b1 : m1 ≤ 9223372036854775807 := by
        have : IntKind.i64.min ≤ m1 ∧ m1 ≤ IntKind.i64.max := by simpa [Lit.wf] using w1
        exact this.2
      have b4 : 0 ≤ m4 := by
        have : IntKind.u64.min ≤ m4 ∧ m4 ≤ IntKind.u64.max := by simpa [Lit.wf] using w4
        exact this.1
      exact ⟨⟨m0, m1, m2, a', cap', l, m4.toNat⟩, ⟨c0, c1, c2, c3, by rw [show (((m4.toNat : Nat)) : Int) = m4 by omega]; exact c4⟩, hib, b1⟩
    obtain ⟨f, hf2⟩ := Go.Deep.choose_lt key
    refine ⟨_, len, cap, (List.range len).map f, rfl, by simp, hl, hm', .inr ⟨b, o, rfl, ?_⟩⟩
    intro i hi
    simp only [List.length_map, List.length_range] at hi
    simp only [List.getElem_map, List.getElem_range]
    exact hf2 i hi
end
end Go.Proofs.Ytoafohckodfjeaa.Par4
