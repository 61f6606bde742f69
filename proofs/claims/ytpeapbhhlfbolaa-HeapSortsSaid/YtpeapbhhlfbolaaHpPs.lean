
/- slices of texts and of bytes that came in, opened -/
import Derived.Test.YtpeapbhhlfbolaaHeapSortsW
import Derived.Test.YtpeapbhhlfbolaaOp
import Derived.OpenShut
import Derived.Deep.Strs
namespace Go.Proofs.Ytpeapbhhlfbolaa.HpPs
set_option maxRecDepth 20000
open Go.ChangeShapes Go.WideShapes Go.ChangeAt Go.RowKit Go.Deep
section
variable {H : Type} {enc : TypeId × Value → H} {W : World}
theorem open_texts {r : Reach} {b0 base : Nat} {v : Value} {d : DataW H} {p : List MemPlace} (hv : Value.okWide Try.prog W r b0 44 v) (h : DataW.Trod enc Try.prog W base (fun _ => true) true 44 v d p) :
    ∃ a n c l, v = .slice a n c ∧ HpB.InK W a n c l := by
  obtain ⟨a, n, c, rfl⟩ := okWide_slice Try.underlying44 hv
  obtain ⟨fuel, hf⟩ := h
  simp only [Value.cells] at hf
  rcases open_strs Try.underlying44 Try.underlying9 (by kernel_rfl) hf with ⟨hcs, _⟩ | ⟨x, l, c', m, Sx, hcs, _, hl, hm, hmm, _, hcell⟩
  · simp only [List.cons.injEq, Value.slice.injEq, and_true] at hcs
    obtain ⟨rfl, rfl, rfl⟩ := hcs
    exact ⟨none, 0, 0, [], rfl, rfl, Nat.le_refl _, Nat.zero_le _, by simp, .inl rfl⟩
  · simp only [List.cons.injEq, Value.slice.injEq, and_true] at hcs
    obtain ⟨rfl, rfl, rfl⟩ := hcs
    have hmn : n ≤ m := by simp at hmm; omega
    refine ⟨some x, n, c, (List.range n).map fun i => (Sx i).data.toList, rfl, by simp, hl, by unfold maxLen at hm; omega, fun z hz => ?_, ?_⟩
    · obtain ⟨i, hi, rfl⟩ := List.mem_map.1 hz
      have := (hcell i (by have := List.mem_range.1 hi; omega)).2
      unfold maxLen at this
      have e : (Sx i).data.toList.length = (Sx i).size := by show (Sx i).data.toList.length = (Sx i).data.size; simp
      omega
    · by_cases h0 : n = 0
      · exact .inl h0
      · right
        obtain ⟨b, o, spot⟩ := x
        have h1 := (hcell 0 (by omega)).1
        have hsp : spot = none := by simpa [Addr.add] using World.cell?_spot h1
        subst hsp
        refine ⟨b, o, rfl, fun i hi => ?_⟩
        have h2 := (hcell i (by omega)).1
        rw [Op.add_none] at h2
        rw [h2]
        simp [List.getD_eq_getElem?_getD, hi]
theorem open_u8s {r : Reach} {b0 base : Nat} {v : Value} {d : DataW H} {p : List MemPlace} (hv : Value.okWide Try.prog W r b0 45 v) (h : DataW.Trod enc Try.prog W base (fun _ => true) true 45 v d p) :
    ∃ a n c, ∃ _ : Unit, v = .slice a n c ∧ HpB.InR W a n c := by
  obtain ⟨a, n, c, rfl⟩ := okWide_slice Try.underlying45 hv
  obtain ⟨fuel, hf⟩ := h
  simp only [Value.cells] at hf
  rcases open_ints Try.underlying45 Try.underlying5 (by kernel_rfl) hf with ⟨hcs, _⟩ | ⟨x, l, c', zs, hcs, _, hl, hm, hz, _, hcell, hwz⟩
  · simp only [List.cons.injEq, Value.slice.injEq, and_true] at hcs
    obtain ⟨rfl, rfl, rfl⟩ := hcs
    exact ⟨none, 0, 0, (), rfl, Nat.le_refl _, Nat.zero_le _, .inl rfl⟩
  · simp only [List.cons.injEq, Value.slice.injEq, and_true] at hcs
    obtain ⟨rfl, rfl, rfl⟩ := hcs
    refine ⟨some x, n, c, (), rfl, hl, by unfold maxLen at hm; omega, ?_⟩
    by_cases h0 : n = 0
    · exact .inl h0
    · right
      obtain ⟨b, o, spot⟩ := x
      have hz2 : zs.length = c := by simpa using hz
      have h1 := hcell 0 (by omega)
      have hsp : spot = none := by simpa [Addr.add] using World.cell?_spot h1
      subst hsp
      refine ⟨b, o, rfl, fun i hi => ?_⟩
      have h2 := hcell i (by omega)
      rw [Op.add_none] at h2
      have hmem : zs.getD i 0 ∈ zs := by
        rw [List.getD_eq_getElem?_getD, List.getElem?_eq_getElem (by omega)]
        exact List.getElem_mem _
      have h3 : 0 ≤ zs.getD i 0 ∧ zs.getD i 0 ≤ 255 := by simpa [Lit.wf, IntKind.min, IntKind.max, IntKind.signed, IntKind.bits] using hwz _ hmem
      refine ⟨(zs.getD i 0).toNat, by omega, ?_⟩
      rw [h2]
      exact congrArg (fun z => some (Value.int .u8 z)) (by omega)
end
end Go.Proofs.Ytpeapbhhlfbolaa.HpPs
