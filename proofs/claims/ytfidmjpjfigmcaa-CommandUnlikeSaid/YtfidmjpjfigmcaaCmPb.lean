
/- arguments of commands' laws that came in, opened: requests -/
import Derived.Test.YtfidmjpjfigmcaaCmJ
import Derived.Test.YtfidmjpjfigmcaaSpPa
namespace Go.Proofs.Ytfidmjpjfigmcaa.CmPb
set_option maxRecDepth 20000
open Go.ChangeShapes Go.WideShapes Go.ChangeAt Go.RowKit Go.Deep
open SpPa
section
variable {H : Type} {enc : TypeId × Value → H} {W : World}
theorem u64_one {base fuel : Nat} {v : Value} {x : DataW H × List MemPlace} (h : DataW.trod enc Try.prog W base (fun _ => true) true fuel 24 [v] = some x) : ∃ m : Nat, v = .int .u64 (m : Int) ∧ Rf.U64 m := by
  obtain ⟨n, e, _, hw⟩ := DataW.trod_int Try.underlying24 h
  have hw' : 0 ≤ n ∧ n ≤ 18446744073709551615 := by simpa [Lit.wf, IntKind.min, IntKind.max, IntKind.signed, IntKind.bits] using hw
  refine ⟨n.toNat, ?_, by unfold Rf.U64; omega⟩
  rw [Int.toNat_of_nonneg hw'.1]
  exact (List.cons.inj e).1
theorem spec_of {base fuel : Nat} {c0 c1 c2 c3 c4 c5 c6 c7 c8 c9 c10 : Value} {y : DataW H × List MemPlace} (h : DataW.trod enc Try.prog W base (fun _ => true) true fuel 27 [c0, c1, c2, c3, c4, c5, c6, c7, c8, c9, c10] = some y) :
    ∃ x : Sp.Spc, [c0, c1, c2, c3, c4, c5, c6, c7, c8, c9, c10] = x.cells.toList ∧ x.wf ∧ Sp.Dp W x.a x.n x.ds ∧ x.n ≤ maxLen := by
  obtain ⟨xs, n, _, _, _, hlen, hg⟩ := DataW.trod_struct Try.underlying27 h
  have g0 := hg 0 _ rfl
  have g1 := hg 1 _ rfl
  have g2 := hg 2 _ rfl
  have g3 := hg 3 _ rfl
  have g4 := hg 4 _ rfl
  have g5 := hg 5 _ rfl
  have g6 := hg 6 _ rfl
  have g7 := hg 7 _ rfl
  have g8 := hg 8 _ rfl
  have g9 := hg 9 _ rfl
  have g10 := hg 10 _ rfl
  match xs, hlen with
  | [y0, y1, y2, y3, y4, y5, y6, y7, y8, y9, y10], _ =>
    obtain ⟨m0, rfl⟩ := str_one (show DataW.trod enc Try.prog W base (fun _ => true) true n 9 [c0] = some y0 from g0)
    obtain ⟨m1, rfl⟩ := str_one (show DataW.trod enc Try.prog W base (fun _ => true) true n 9 [c1] = some y1 from g1)
    obtain ⟨m2, rfl, b2⟩ := int_one Try.underlying3 (show DataW.trod enc Try.prog W base (fun _ => true) true n 3 [c2] = some y2 from g2)
    obtain ⟨m3, rfl, b3⟩ := int_one Try.underlying2 (show DataW.trod enc Try.prog W base (fun _ => true) true n 2 [c3] = some y3 from g3)
    obtain ⟨a, k, c, ds, rfl, hd, hk⟩ := row_one (show DataW.trod enc Try.prog W base (fun _ => true) true n 25 [c4] = some y4 from g4)
    obtain ⟨m5, rfl, b5⟩ := int_one Try.underlying2 (show DataW.trod enc Try.prog W base (fun _ => true) true n 2 [c5] = some y5 from g5)
    obtain ⟨m6, rfl, b6⟩ := int_one Try.underlying2 (show DataW.trod enc Try.prog W base (fun _ => true) true n 2 [c6] = some y6 from g6)
    obtain ⟨m7, rfl, b7⟩ := int_one Try.underlying3 (show DataW.trod enc Try.prog W base (fun _ => true) true n 3 [c7] = some y7 from g7)
    obtain ⟨m8, rfl, b8⟩ := int_one Try.underlying2 (show DataW.trod enc Try.prog W base (fun _ => true) true n 2 [c8] = some y8 from g8)
    obtain ⟨m9, rfl⟩ := str_one (show DataW.trod enc Try.prog W base (fun _ => true) true n 9 [c9] = some y9 from g9)
    obtain ⟨m10, rfl, b10⟩ := int_one Try.underlying3 (show DataW.trod enc Try.prog W base (fun _ => true) true n 3 [c10] = some y10 from g10)
    exact ⟨⟨m0, m1, m2, m3, a, k, c, ds, m5, m6, m7, m8, m9, m10⟩, rfl, ⟨b2, b3, b5, b6, b7, b8, b10⟩, hd, hk⟩
theorem cmd_of {base fuel : Nat} {d0 d1 d2 d3 d4 c0 c1 c2 c3 c4 c5 c6 c7 c8 c9 c10 : Value} {y : DataW H × List MemPlace} (h : DataW.trod enc Try.prog W base (fun _ => true) true fuel 29 [d0, d1, d2, d3, d4, c0, c1, c2, c3, c4, c5, c6, c7, c8, c9, c10] = some y) :
    ∃ x : Cm.Cmd, [d0, d1, d2, d3, d4, c0, c1, c2, c3, c4, c5, c6, c7, c8, c9, c10] = x.cells.toList ∧ x.wf ∧ Sp.Dp W x.sp.a x.sp.n x.sp.ds ∧ x.sp.n ≤ maxLen := by
  obtain ⟨xs, n, _, _, _, hlen, hg⟩ := DataW.trod_struct Try.underlying29 h
  have g0 := hg 0 _ rfl
  have g1 := hg 1 _ rfl
  have g2 := hg 2 _ rfl
  have g3 := hg 3 _ rfl
  have g4 := hg 4 _ rfl
  have g5 := hg 5 _ rfl
  match xs, hlen with
  | [y0, y1, y2, y3, y4, y5], _ =>
    obtain ⟨m0, rfl, b0⟩ := int_one Try.underlying3 (show DataW.trod enc Try.prog W base (fun _ => true) true n 3 [d0] = some y0 from g0)
    obtain ⟨m1, rfl⟩ := str_one (show DataW.trod enc Try.prog W base (fun _ => true) true n 9 [d1] = some y1 from g1)
    obtain ⟨m2, rfl⟩ := str_one (show DataW.trod enc Try.prog W base (fun _ => true) true n 9 [d2] = some y2 from g2)
    obtain ⟨m3, rfl, b3⟩ := u64_one (show DataW.trod enc Try.prog W base (fun _ => true) true n 24 [d3] = some y3 from g3)
    obtain ⟨m4, rfl, b4⟩ := int_one Try.underlying2 (show DataW.trod enc Try.prog W base (fun _ => true) true n 2 [d4] = some y4 from g4)
    obtain ⟨x, hx, w5, hd, hn⟩ := spec_of (show DataW.trod enc Try.prog W base (fun _ => true) true n 27 [c0, c1, c2, c3, c4, c5, c6, c7, c8, c9, c10] = some y5 from g5)
    refine ⟨⟨m0, m1, m2, m3, m4, x⟩, ?_, ⟨b0, b3, b4, w5⟩, hd, hn⟩
    rw [hx]
    rfl
theorem open_req {r : Reach} {b0 base : Nat} {v : Value} {d : DataW H} {p : List MemPlace} (hv : Value.okWide Try.prog W r b0 31 v) (h : DataW.Trod enc Try.prog W base (fun _ => true) true 31 v d p) :
    ∃ x : Cm.Req, v = .agg x.cells ∧ x.wf ∧ Sp.Dp W x.c.sp.a x.c.sp.n x.c.sp.ds ∧ x.c.sp.n ≤ maxLen := by
  obtain ⟨cs, rfl, hsz⟩ := okWide_struct Try.underlying31 hv
  obtain ⟨l⟩ := cs
  have hc : Try.prog.cellsOf 31 = 18 := by kernel_rfl
  match l, hsz.trans hc with
  | [e0, e1, d0, d1, d2, d3, d4, c0, c1, c2, c3, c4, c5, c6, c7, c8, c9, c10], _ =>
    obtain ⟨fuel, hf⟩ := h
    obtain ⟨xs, n, _, _, _, hlen, hg⟩ := DataW.trod_struct Try.underlying31 hf
    have g0 := hg 0 _ rfl
    have g1 := hg 1 _ rfl
    have g2 := hg 2 _ rfl
    match xs, hlen with
    | [y0, y1, y2], _ =>
      obtain ⟨m0, rfl, b0⟩ := u64_one (show DataW.trod enc Try.prog W base (fun _ => true) true n 24 [e0] = some y0 from g0)
      obtain ⟨m1, rfl, b1⟩ := u64_one (show DataW.trod enc Try.prog W base (fun _ => true) true n 24 [e1] = some y1 from g1)
      obtain ⟨x, hx, w5, hd, hn⟩ := cmd_of (show DataW.trod enc Try.prog W base (fun _ => true) true n 29 [d0, d1, d2, d3, d4, c0, c1, c2, c3, c4, c5, c6, c7, c8, c9, c10] = some y2 from g2)
      refine ⟨⟨m0, m1, x⟩, ?_, ⟨b0, b1, w5⟩, hd, hn⟩
      rw [hx]
      rfl
end
end Go.Proofs.Ytfidmjpjfigmcaa.CmPb
