/- a slice of records that came in, opened; the walk of FrameScans at it -/
import Derived.Test.YtadlfdjomcdpbaaDoorFrameScansW
import Derived.Test.YtadlfdjomcdpbaaDoorPar
namespace Go.Proofs.YtadlfdjomcdpbaaDoor.Par
open Go.ChangeShapes Go.WideShapes Go.ChangeAt Go.RowKit Go.Proofs.YtadlfdjomcdpbaaDoor.By
section
variable {H : Type} {enc : TypeId × Value → H} {W : World}
theorem open_recs {r : Reach} {b0 base : Nat} {v : Value} {d : DataW H} {p : List MemPlace} (hv : Value.okWide Tryd.prog W r b0 37 v) (h : DataW.Trod enc Tryd.prog W base (fun _ => true) true 37 v d p) :
    ∃ a len cap, ∃ L : List Fm.In4, v = .slice a len cap ∧ L.length = len ∧ len ≤ cap ∧ cap ≤ 9223372036854775807 ∧ Fm.IsRecs W a L := by
  obtain ⟨a, len, cap, rfl⟩ := okWide_slice Tryd.underlying37 hv
  obtain ⟨fuel, hf⟩ := h
  simp only [Value.cells] at hf
  obtain ⟨hl, hm, h⟩ := Op.slice_fields Tryd.underlying37 Tryd.underlying25 oneRec (by kernel_rfl) (by decide) hf
  have hm' : cap ≤ 9223372036854775807 := by unfold maxLen at hm; omega
  rcases h with h0 | ⟨b, o, rfl, h⟩
  · exact ⟨a, len, cap, [], rfl, h0.symm, hl, hm', .inl rfl⟩
  · have key : ∀ i, i < len → ∃ x : Fm.In4, Fm.RecAt W b o i x := by
      intro i hi
      obtain ⟨v0, n0, y0, c0, t0⟩ := h i hi 0 _ rfl
      obtain ⟨v1, n1, y1, c1, t1⟩ := h i hi 1 _ rfl
      obtain ⟨m, e0⟩ := u8_cell t0
      obtain ⟨a', len', cap', l, e, hib⟩ := bytes_cell t1
      simp only [List.cons.injEq, and_true] at e0 e
      subst e0 e
      obtain rfl : l.length = len' := hib.1
      exact ⟨(m, a', cap', l), c0, c1, hib⟩
    obtain ⟨f, hf2⟩ := Go.Deep.choose_lt key
    refine ⟨_, len, cap, (List.range len).map f, rfl, by simp, hl, hm', .inr ⟨b, o, rfl, ?_⟩⟩
    intro i hi
    simp only [List.length_map, List.length_range] at hi
    simp only [List.getElem_map, List.getElem_range]
    exact hf2 i hi
theorem scans_card (s : Nat) (a : Option Addr) (len cap : Nat) (L : List Fm.In4) (a2 : Option Addr) (n2 c2 : Nat) (bh : List UInt8) (cut tt : Nat) (by' : UInt8) (w : World) (hs : Cr.U32 s) (hL : L.length = len ∧ len ≤ cap ∧ cap ≤ 9223372036854775807 ∧ Fm.IsRecs w a L) (h2 : IsB w a2 n2 c2 bh)
    (hcut : cut ≤ 65535) (htt : tt ≤ 65535) (hn : Cr.Nibs w) :
    Calls Tryd.prog 4 #[.int .u32 s, .slice a len cap, .slice a2 n2 c2, .int .u16 cut, .int .u16 tt, .int .u8 (by'.toNat : Nat)] w fun e w' => e = .returned (.bool true) ∧ Below w.heap.size w w' := by
  obtain ⟨rfl, h1, h3, h4⟩ := hL
  exact Fm.scans_walk s a cap L a2 n2 c2 bh cut tt by' w hs ⟨h1, h3⟩ h4 h2 hcut htt hn
end
end Go.Proofs.YtadlfdjomcdpbaaDoor.Par
