/- OctetWrites (P1.1 to P1.3): for every row of items what the writer makes of numbers, signed numbers, flags and texts is the document's bytes, and is read again, one by one, to the end: the call returns true, and the argument reads as before. No condition. -/
import Derived.Test.YtfbohbcokggmpaaWritesW
import Derived.Test.YtfbohbcokggmpaaOp
import Derived.WalkKit
import Derived.ProofKit
import Derived.OpenShut
import Derived.ShutString
import Derived.ChangeOld
import Derived.Below
namespace Go.Proofs.Ytfbohbcokggmpaa.octetWrites
open Go.ChangeShapes Go.WideShapes Go.ChangeAt Go.RowKit
open Go.ChangeMaps (open_string shut_string)
set_option linter.unusedVariables false

theorem own : ownKnob Try.prog.godebug = none := by kernel_rfl
theorem laidOut : laidOutB Try.prog = true := by kernel_rfl

theorem oneItem : Go.Deep.oneCellFields Try.prog #[⟨ "Kind", 5, 0, false, "", "", 0⟩, ⟨ "X", 28, 1, false, "", "", 8⟩, ⟨ "S", 9, 2, false, "", "", 16⟩] = true := by kernel_rfl

set_option maxRecDepth 100000 in
theorem lifted (os : Os) (started : os.Started) (H : Type) (enc : TypeId × Value → H) :
    ReturnsInHanded {} Try.checked os 3 .any (Rows.octetWritesSpec.pre6 enc Try.prog Try.f3 Rows.octetWritesRow.domain false) (Rows.octetWritesSpec.post enc Try.prog Try.f3 false true false false) := by
  refine returnsInHanded_of_change (C := Try.checked) own started (by kernel_rfl) Try.func3
    (ChangeSpec.witness6 (enc := enc) (C := Try.checked) false ⟨#[], #[.slice none 0 0], []⟩ 8 (by kernel_rfl) (by kernel_rfl) (by kernel_rfl) (by kernel_rfl)) ?_
  intro W base args ds gs before hval0 hW hcnd _
  have hval : ∀ (j : Nat) t v, Try.f3.params[j]? = some t → args[j]? = some v → Value.okWide Try.prog W .any base t v := hval0
  have hW' := hW
  obtain ⟨p, q, hA0, hV, rfl, hfz, hnd⟩ := hW
  have hA : DataW.TrodAll enc Try.prog W 0 (fun _ => true) true Try.f3.params.toList args.toList ds p := hA0
  rw [Try.params3] at hA hval
  obtain ⟨v0, vs0, d0, ds0, p0, q0, hargs, rfl, rfl, h0, r0⟩ := trodAll_cons hA
  obtain ⟨rfl, rfl, rfl⟩ := trodAll_nil r0
  obtain rfl : args = #[v0] := by cases args; simp_all
  obtain ⟨rfl, rfl⟩ := trodVars_none hV
  obtain ⟨a0, len0, cap0, rfl⟩ := okWide_slice Try.underlying22 (hval 0 22 v0 rfl rfl)
  have k0 := h0
  have lt0 : ∀ x ∈ p0, x.block < W.heap.size := by obtain ⟨m, hm⟩ := k0; exact DataW.trod_lt m _ _ _ hm
  obtain ⟨l, hlen, hmax, hit⟩ : ∃ l : List (Nat × Nat × ByteArray), l.length = len0 ∧ len0 ≤ maxLen ∧ Oc.IsIt W a0 l := by
    obtain ⟨fuel, hf⟩ := h0
    have hf' := hf
    simp only [Value.cells] at hf'
    obtain ⟨hl, hm, h⟩ := Op.slice_fields Try.underlying22 Try.underlying30 oneItem (by kernel_rfl) (by decide) hf'
    rcases h with h0 | ⟨b, o, rfl, h⟩
    · exact ⟨[], h0.symm, by omega, by simp, .inl rfl⟩
    · have key : ∀ i, i < len0 → ∃ x : Nat × Nat × ByteArray, Oc.WfI x ∧ W.cell? ⟨b, o + i * 3, none⟩ = some (.int .u8 x.1) ∧ W.cell? ⟨b, o + i * 3 + 1, none⟩ = some (.int .u64 x.2.1) ∧ W.cell? ⟨b, o + i * 3 + 2, none⟩ = some (.string x.2.2) := by
        intro i hi
        obtain ⟨v0, n0, y0, c0, t0⟩ := h i hi 0 _ rfl
        obtain ⟨v1, n1, y1, c1, t1⟩ := h i hi 1 _ rfl
        obtain ⟨v2, n2, y2, c2, t2⟩ := h i hi 2 _ rfl
        obtain ⟨m0, e0, _, w0⟩ := DataW.trod_int Try.underlying5 t0
        obtain ⟨m1, e1, _, w1⟩ := DataW.trod_int Try.underlying28 t1
        obtain ⟨s2, e2, _, w2⟩ := DataW.trod_string Try.underlying9 t2
        simp only [List.cons.injEq, and_true] at e0 e1 e2
        subst e0 e1 e2
        have b0 : 0 ≤ m0 ∧ m0 ≤ 255 := by simpa [Lit.wf, IntKind.min, IntKind.max, IntKind.signed, IntKind.bits] using w0
        have b1 : 0 ≤ m1 ∧ m1 ≤ 18446744073709551615 := by simpa [Lit.wf, IntKind.min, IntKind.max, IntKind.signed, IntKind.bits] using w1
        refine ⟨(m0.toNat, m1.toNat, s2), ⟨show m0.toNat < 256 by omega, show m1.toNat < 18446744073709551616 by omega, w2⟩, ?_, ?_, ?_⟩
        · rw [show ((m0.toNat : Nat) : Int) = m0 by omega]; exact c0
        · rw [show ((m1.toNat : Nat) : Int) = m1 by omega]; exact c1
        · exact c2
      obtain ⟨f, hf2⟩ := Go.Deep.choose_lt key
      refine ⟨(List.range len0).map f, by simp, by omega, ?_, .inr ⟨b, o, rfl, ?_⟩⟩
      · intro x hx
        simp only [List.mem_map, List.mem_range] at hx
        obtain ⟨i, hi, rfl⟩ := hx
        exact (hf2 i hi).1
      · intro i hi
        simp only [List.length_map, List.length_range] at hi
        simp only [List.getElem_map, List.getElem_range]
        exact (hf2 i hi).2
  clear hA0 hval0
  refine (Oc.writes_walk a0 len0 cap0 l W hlen hmax hit).mono fun e W' ⟨he, bel⟩ => ?_
  subst he
  exact ⟨_, rfl, _, _, _, [], _, [], hW', trodAll_mk1 (shut_bool Try.underlying4 _), (trodAll_cons_mk (Below.trod laidOut (by kernel_rfl) (of_decide_eq_true (by kernel_rfl)) k0 bel lt0) trodAll_mk0), rfl, bel.frame _, fun h => by cases h⟩

theorem over : Rows.octetWritesRow.holds Try.pinned (OpenSpec.ofChange Rows.octetWritesSpec) :=
  OpenClaim.holds_of_wide 3 Try.f3 rfl rfl rfl rfl rfl rfl rfl ⟨rfl, rfl, rfl, rfl, rfl⟩ rfl rfl rfl rfl rfl (by kernel_rfl) Try.func3 (by kernel_rfl)
    (of_decide_eq_true (by kernel_rfl)) (by unfold Func.isWrapper; first | (rw [if_pos (by decide +kernel)]; kernel_rfl) | (rw [if_neg (by decide +kernel)]; exact ⟨rfl, rfl⟩))
    (fun os started H enc _ => lifted os started H enc)

theorem proved : Rows.OctetWritesSaid := over
#print axioms proved
end Go.Proofs.Ytfbohbcokggmpaa.octetWrites
