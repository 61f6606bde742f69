
/- arguments of ready's laws that came in, opened -/
import Derived.Test.YtomkefaakgodhaaOp
import Derived.ProofKit
import Derived.OpenShut
import Derived.ShutString
import Derived.ChangeOld
namespace Go.Proofs.Ytomkefaakgodhaa.NxPa
set_option maxRecDepth 20000
open Go.ChangeShapes Go.WideShapes Go.ChangeAt Go.RowKit
open Go.ChangeMaps (open_string shut_string)
/-- numbers of 16 bits that lie in a row -/
def InU (W : World) (a : Option Addr) (n c : Nat) (l : List Int) : Prop :=
  l.length = n ∧ n ≤ c ∧ c ≤ 9223372036854775807 ∧ (∀ z ∈ l, 0 ≤ z ∧ z < 65536) ∧ (n = 0 ∨ ∃ b o, a = some ⟨b, o, none⟩ ∧ ∀ i, i < n → W.cell? ⟨b, o + i, none⟩ = some (.int .u16 (l.getD i 0)))
/-- acts that lie in a row -/
def InA (W : World) (a : Option Addr) (n c : Nat) : Prop :=
  n ≤ c ∧ c ≤ 9223372036854775807 ∧ (n = 0 ∨ ∃ b o, a = some ⟨b, o, none⟩ ∧ ∀ i, i < n → ∃ (m t q : Int) (s : List UInt8), s.length ≤ maxLen ∧ (-9223372036854775808 ≤ m ∧ m ≤ 9223372036854775807) ∧ (-9223372036854775808 ≤ t ∧ t ≤ 9223372036854775807) ∧
    W.cell? ⟨b, o + (i * 4 + 0), none⟩ = some (.int .i64 m) ∧ W.cell? ⟨b, o + (i * 4 + 1), none⟩ = some (.int .i64 t) ∧ W.cell? ⟨b, o + (i * 4 + 2), none⟩ = some (.string ⟨s.toArray⟩) ∧ W.cell? ⟨b, o + (i * 4 + 3), none⟩ = some (.int .u64 q))
theorem str_list (s : ByteArray) : s = ⟨s.data.toList.toArray⟩ := by cases s; simp
section
variable {H : Type} {enc : TypeId × Value → H} {W : World}
theorem open_str {r : Reach} {b0 base : Nat} {v : Value} {d : DataW H} {p : List MemPlace} (hv : Value.okWide Try.prog W r b0 9 v) (h : DataW.Trod enc Try.prog W base (fun _ => true) true 9 v d p) : ∃ m : ByteArray, v = .string m ∧ m.size ≤ maxLen := by
  obtain ⟨a, rfl, rfl, rfl, w0⟩ := open_string Try.underlying9 hv h
  exact ⟨a, rfl, w0⟩
theorem open_int2 {r : Reach} {b0 base : Nat} {v : Value} {d : DataW H} {p : List MemPlace} (hv : Value.okWide Try.prog W r b0 3 v) (h : DataW.Trod enc Try.prog W base (fun _ => true) true 3 v d p) : ∃ m : Int, v = .int .i64 m ∧ (-9223372036854775808 ≤ m ∧ m ≤ 9223372036854775807) := by
  obtain ⟨m, rfl, rfl, rfl, w0⟩ := open_int Try.underlying3 hv h
  exact ⟨m, rfl, by simpa [Lit.wf, IntKind.min, IntKind.max, IntKind.signed, IntKind.bits] using w0⟩
theorem open_u16s {r : Reach} {b0 base : Nat} {v : Value} {d : DataW H} {p : List MemPlace} (hv : Value.okWide Try.prog W r b0 48 v) (h : DataW.Trod enc Try.prog W base (fun _ => true) true 48 v d p) :
    ∃ a n c l, v = .slice a n c ∧ InU W a n c l := by
  obtain ⟨a, n, c, rfl⟩ := okWide_slice Try.underlying48 hv
  obtain ⟨fuel, hf⟩ := h
  simp only [Value.cells] at hf
  rcases open_ints Try.underlying48 Try.underlying51 (by kernel_rfl) hf with ⟨hcs, _⟩ | ⟨x, l, c', zs, hcs, _, hl, hm, hz, _, hcell, hwz⟩
  · simp only [List.cons.injEq, Value.slice.injEq, and_true] at hcs
    obtain ⟨rfl, rfl, rfl⟩ := hcs
    exact ⟨none, 0, 0, [], rfl, rfl, Nat.le_refl _, Nat.zero_le _, by simp, .inl rfl⟩
  · simp only [List.cons.injEq, Value.slice.injEq, and_true] at hcs
    obtain ⟨rfl, rfl, rfl⟩ := hcs
    have hz2 : zs.length = c := by simpa using hz
    have hb : ∀ z ∈ zs, 0 ≤ z ∧ z < 65536 := fun z hz => by
      have : 0 ≤ z ∧ z ≤ 65535 := by simpa [Lit.wf, IntKind.min, IntKind.max, IntKind.signed, IntKind.bits] using hwz _ hz
      omega
    refine ⟨some x, n, c, zs.take n, rfl, by simp; omega, hl, by unfold maxLen at hm; omega, fun z hz => hb z (List.mem_of_mem_take hz), ?_⟩
    by_cases h0 : n = 0
    · exact .inl h0
    · right
      obtain ⟨b, o, spot⟩ := x
      have h1 := hcell 0 (by omega)
      have hsp : spot = none := by simpa [Addr.add] using World.cell?_spot h1
      subst hsp
      refine ⟨b, o, rfl, fun i hi => ?_⟩
      have h2 := hcell i (by omega)
      rw [Op.add_none] at h2
      rw [h2]
      congr 2
      rw [List.getD_eq_getElem?_getD, List.getD_eq_getElem?_getD, List.getElem?_take_of_lt hi]
theorem oneAct : Go.Deep.oneCellFields Try.prog #[⟨ "Kind", 3, 0, false, "", "", 0⟩, ⟨ "Priority", 3, 1, false, "", "", 8⟩, ⟨ "Name", 9, 2, false, "", "", 16⟩, ⟨ "Order", 27, 3, false, "", "", 32⟩] = true := by kernel_rfl
theorem open_acts {r : Reach} {b0 base : Nat} {v : Value} {d : DataW H} {p : List MemPlace} (hv : Value.okWide Try.prog W r b0 22 v) (h : DataW.Trod enc Try.prog W base (fun _ => true) true 22 v d p) :
    ∃ a n c, ∃ _ : Unit, v = .slice a n c ∧ InA W a n c := by
  obtain ⟨a, len, cap, rfl⟩ := okWide_slice Try.underlying22 hv
  obtain ⟨fuel, hf⟩ := h
  simp only [Value.cells] at hf
  obtain ⟨hl, hm, h⟩ := Op.slice_fields Try.underlying22 Try.underlying29 oneAct (by kernel_rfl) (by decide) hf
  have hm' : cap ≤ 9223372036854775807 := by unfold maxLen at hm; omega
  refine ⟨a, len, cap, (), rfl, hl, hm', ?_⟩
  rcases h with h0 | ⟨b, o, rfl, h⟩
  · exact .inl h0
  · refine .inr ⟨b, o, rfl, fun i hi => ?_⟩
    obtain ⟨v0, n0, y0, c0, t0⟩ := h i hi 0 _ rfl
    obtain ⟨v1, n1, y1, c1, t1⟩ := h i hi 1 _ rfl
    obtain ⟨v2, n2, y2, c2, t2⟩ := h i hi 2 _ rfl
    obtain ⟨v3, n3, y3, c3, t3⟩ := h i hi 3 _ rfl
    obtain ⟨m0, e0, _, w0⟩ := DataW.trod_int Try.underlying3 t0
    obtain ⟨m1, e1, _, w1⟩ := DataW.trod_int Try.underlying3 t1
    obtain ⟨s, e2, _, w2⟩ := DataW.trod_string Try.underlying9 t2
    obtain ⟨m3, e3, _, w3⟩ := DataW.trod_int Try.underlying27 t3
    simp only [List.cons.injEq, and_true] at e0 e1 e2 e3
    subst e0 e1 e2 e3
    refine ⟨m0, m1, m3, s.data.toList, ?_, by simpa [Lit.wf, IntKind.min, IntKind.max, IntKind.signed, IntKind.bits] using w0, by simpa [Lit.wf, IntKind.min, IntKind.max, IntKind.signed, IntKind.bits] using w1, c0, c1, ?_, c3⟩
    · have : s.data.toList.length = s.size := by show s.data.toList.length = s.data.size; simp
      omega
    · rw [← str_list]; exact c2
end
end Go.Proofs.Ytomkefaakgodhaa.NxPa
