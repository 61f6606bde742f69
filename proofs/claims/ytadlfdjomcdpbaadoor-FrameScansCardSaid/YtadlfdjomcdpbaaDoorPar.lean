/- arguments that came in, opened: numbers, bytes, records -/
import Derived.Test.YtadlfdjomcdpbaaDoorFm5
import Derived.Test.YtadlfdjomcdpbaaDoorOp
import Derived.ProofKit
import Derived.OpenShut
import Derived.ChangeOld
import Derived.Lib.SmallJoins
namespace Go.Proofs.YtadlfdjomcdpbaaDoor.Par
open Go.ChangeShapes Go.WideShapes Go.ChangeAt Go.RowKit Go.Proofs.YtadlfdjomcdpbaaDoor.By
section
variable {H : Type} {enc : TypeId × Value → H} {W : World}

theorem int_nat {k : IntKind} {n : Int} {b : Nat} (hw : (Lit.int k n).wf = true) (h0 : k.min = 0) (hb : k.max = b) : ∃ m : Nat, n = m ∧ m ≤ b := by
  have h : k.min ≤ n ∧ n ≤ k.max := by simpa [Lit.wf] using hw
  exact ⟨n.toNat, by omega, by omega⟩
theorem u8_cell {base fuel : Nat} {cs : List Value} {x : DataW H × List MemPlace} (h : DataW.trod enc Tryd.prog W base (fun _ => true) true fuel 5 cs = some x) : ∃ m : UInt8, cs = [.int .u8 (m.toNat : Nat)] := by
  obtain ⟨n, e, _, hw⟩ := DataW.trod_int Tryd.underlying5 h
  obtain ⟨m, rfl, hm⟩ := int_nat (b := 255) hw rfl rfl
  refine ⟨UInt8.ofNat m, ?_⟩
  rw [UInt8.toNat_ofNat', Nat.mod_eq_of_lt (by omega)]
  exact e
theorem open_u8 {r : Reach} {b0 base : Nat} {v : Value} {d : DataW H} {p : List MemPlace} (hv : Value.okWide Tryd.prog W r b0 5 v) (h : DataW.Trod enc Tryd.prog W base (fun _ => true) true 5 v d p) : ∃ m : UInt8, v = .int .u8 (m.toNat : Nat) := by
  obtain ⟨n, rfl⟩ := okWide_int Tryd.underlying5 hv
  obtain ⟨fuel, hf⟩ := h
  simpa [Value.cells] using u8_cell hf
theorem u32_cell {base fuel : Nat} {cs : List Value} {x : DataW H × List MemPlace} (h : DataW.trod enc Tryd.prog W base (fun _ => true) true fuel 22 cs = some x) : ∃ m : Nat, cs = [.int .u32 (m : Nat)] ∧ Cr.U32 m := by
  obtain ⟨n, e, _, hw⟩ := DataW.trod_int Tryd.underlying22 h
  obtain ⟨m, rfl, hm⟩ := int_nat (b := 4294967295) hw rfl rfl
  exact ⟨m, e, by unfold Cr.U32; omega⟩
theorem open_u32 {r : Reach} {b0 base : Nat} {v : Value} {d : DataW H} {p : List MemPlace} (hv : Value.okWide Tryd.prog W r b0 22 v) (h : DataW.Trod enc Tryd.prog W base (fun _ => true) true 22 v d p) : ∃ m : Nat, v = .int .u32 (m : Nat) ∧ Cr.U32 m := by
  obtain ⟨n, rfl⟩ := okWide_int Tryd.underlying22 hv
  obtain ⟨fuel, hf⟩ := h
  simpa [Value.cells] using u32_cell hf
theorem u16_cell {base fuel : Nat} {cs : List Value} {x : DataW H × List MemPlace} (h : DataW.trod enc Tryd.prog W base (fun _ => true) true fuel 38 cs = some x) : ∃ m : Nat, cs = [.int .u16 (m : Nat)] ∧ m ≤ 65535 := by
  obtain ⟨n, e, _, hw⟩ := DataW.trod_int Tryd.underlying38 h
  obtain ⟨m, rfl, hm⟩ := int_nat (b := 65535) hw rfl rfl
  exact ⟨m, e, by omega⟩
theorem open_u16 {r : Reach} {b0 base : Nat} {v : Value} {d : DataW H} {p : List MemPlace} (hv : Value.okWide Tryd.prog W r b0 38 v) (h : DataW.Trod enc Tryd.prog W base (fun _ => true) true 38 v d p) : ∃ m : Nat, v = .int .u16 (m : Nat) ∧ m ≤ 65535 := by
  obtain ⟨n, rfl⟩ := okWide_int Tryd.underlying38 hv
  obtain ⟨fuel, hf⟩ := h
  simpa [Value.cells] using u16_cell hf
theorem bytes_cell {base fuel : Nat} {cs : List Value} {x : DataW H × List MemPlace} (h : DataW.trod enc Tryd.prog W base (fun _ => true) true fuel 23 cs = some x) : ∃ a len cap l, cs = [.slice a len cap] ∧ IsB W a len cap l := by
  rcases open_ints Tryd.underlying23 Tryd.underlying5 (by kernel_rfl) h with ⟨hcs, _⟩ | ⟨x, l, c, zs, hcs, _, hl, hm, hz, _, hcell, hwz⟩
  · exact ⟨none, 0, 0, [], hcs, rfl, .inl ⟨rfl, rfl, rfl⟩⟩
  · obtain ⟨l', h'⟩ := isB_row (w := W) (a := some x) (len := l) (cap := c) (zs := zs) (.inr ⟨x, rfl, hl, hm, by simpa using hz, hcell, hwz⟩)
    exact ⟨some x, l, c, l', hcs, h'⟩
theorem open_bytes {r : Reach} {b0 base : Nat} {v : Value} {d : DataW H} {p : List MemPlace} (hv : Value.okWide Tryd.prog W r b0 23 v) (h : DataW.Trod enc Tryd.prog W base (fun _ => true) true 23 v d p) : ∃ a len cap l, v = .slice a len cap ∧ IsB W a len cap l := by
  obtain ⟨a, len, cap, rfl⟩ := okWide_slice Tryd.underlying23 hv
  obtain ⟨fuel, hf⟩ := h
  obtain ⟨a', len', cap', l, e, hib⟩ := bytes_cell hf
  have e' : Value.slice a len cap = .slice a' len' cap' := by simpa [Value.cells] using e
  exact ⟨a', len', cap', l, e', hib⟩
theorem oneRec : Go.Deep.oneCellFields Tryd.prog #[⟨ "Kind", 5, 0, false, "", "", 0⟩, ⟨ "Data", 23, 1, false, "", "", 8⟩] = true := by kernel_rfl
theorem open_rec {r : Reach} {b0 base : Nat} {v : Value} {d : DataW H} {p : List MemPlace} (hv : Value.okWide Tryd.prog W r b0 25 v) (h : DataW.Trod enc Tryd.prog W base (fun _ => true) true 25 v d p) :
    ∃ (k : UInt8) (a : Option Addr) (len cap : Nat) (l : List UInt8), v = .agg #[.int .u8 (k.toNat : Nat), .slice a len cap] ∧ IsB W a len cap l := by
  obtain ⟨v0, v1, y0, y1, n, rfl, _, _, t0, t1⟩ := Joins.open_agg2 Tryd.underlying25 oneRec (by kernel_rfl) hv h
  obtain ⟨a, len, cap, l, e, hib⟩ := bytes_cell t1
  obtain ⟨m, e0⟩ := u8_cell t0
  simp only [List.cons.injEq, and_true] at e e0
  subst e e0
  exact ⟨m, a, len, cap, l, rfl, hib⟩
end
end Go.Proofs.YtadlfdjomcdpbaaDoor.Par
