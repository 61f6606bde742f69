
/- arguments of specs' laws that came in, opened -/
import Derived.Test.YtfidmjpjfigmcaaSpM
import Derived.ProofKit
import Derived.OpenShut
import Derived.ShutString
import Derived.ChangeOld
import Derived.Deep.Strs
import Derived.Lib.SmallJoins
namespace Go.Proofs.Ytfidmjpjfigmcaa.SpPa
set_option maxRecDepth 20000
open Go.ChangeShapes Go.WideShapes Go.ChangeAt Go.RowKit Go.Deep
open Go.ChangeMaps (open_string shut_string)
section
variable {H : Type} {enc : TypeId × Value → H} {W : World}
theorem open_u8 {r : Reach} {b0 base : Nat} {v : Value} {d : DataW H} {p : List MemPlace} (hv : Value.okWide Try.prog W r b0 5 v) (h : DataW.Trod enc Try.prog W base (fun _ => true) true 5 v d p) : ∃ m : Nat, v = .int .u8 (m : Int) ∧ m < 256 := by
  obtain ⟨n, rfl⟩ := okWide_int Try.underlying5 hv
  obtain ⟨fuel, hf⟩ := h
  simp only [Value.cells] at hf
  obtain ⟨n', e, _, hw⟩ := DataW.trod_int Try.underlying5 hf
  have e2 : n = n' := by simpa using e
  subst e2
  have h2 : IntKind.u8.min ≤ n ∧ n ≤ IntKind.u8.max := by simpa [Lit.wf] using hw
  have h3 : IntKind.u8.min = 0 := rfl
  have h4 : IntKind.u8.max = 255 := rfl
  refine ⟨n.toNat, ?_, by omega⟩
  rw [Int.toNat_of_nonneg (by omega)]
theorem open_str {r : Reach} {b0 base : Nat} {v : Value} {d : DataW H} {p : List MemPlace} (hv : Value.okWide Try.prog W r b0 9 v) (h : DataW.Trod enc Try.prog W base (fun _ => true) true 9 v d p) : ∃ m : ByteArray, v = .string m ∧ m.size ≤ maxLen := by
  obtain ⟨a, rfl, rfl, rfl, w0⟩ := open_string Try.underlying9 hv h
  exact ⟨a, rfl, w0⟩
theorem int_one {t : TypeId} (ht : Try.prog.underlying t = some (.int .i64)) {base fuel : Nat} {v : Value} {x : DataW H × List MemPlace} (h : DataW.trod enc Try.prog W base (fun _ => true) true fuel t [v] = some x) : ∃ m : Int, v = .int .i64 m ∧ Sp.W64 m := by
  obtain ⟨n, e, _, hw⟩ := DataW.trod_int ht h
  exact ⟨n, (List.cons.inj e).1, hw⟩
theorem str_one {base fuel : Nat} {v : Value} {x : DataW H × List MemPlace} (h : DataW.trod enc Try.prog W base (fun _ => true) true fuel 9 [v] = some x) : ∃ m : ByteArray, v = .string m := by
  obtain ⟨s, e, _, _⟩ := DataW.trod_string Try.underlying9 h
  exact ⟨s, (List.cons.inj e).1⟩
theorem row_one {base fuel : Nat} {v : Value} {x : DataW H × List MemPlace} (h : DataW.trod enc Try.prog W base (fun _ => true) true fuel 25 [v] = some x) : ∃ a n c ds, v = .slice a n c ∧ Sp.Dp W a n ds ∧ n ≤ maxLen := by
  rcases open_strs Try.underlying25 Try.underlying9 (by kernel_rfl) h with ⟨hcs, _⟩ | ⟨x, n, c, m, Sx, hcs, _, hl, hm, hmm, _, hcell⟩
  · obtain rfl := (List.cons.inj hcs).1
    exact ⟨none, 0, 0, [], rfl, ⟨rfl, fun _ => rfl, .inl rfl⟩, Nat.zero_le _⟩
  · obtain rfl := (List.cons.inj hcs).1
    have hmn : n ≤ m := by simp at hmm; omega
    refine ⟨some x, n, c, (List.range n).map Sx, rfl, ⟨by simp, fun e => (by cases e), ?_⟩, by omega⟩
    by_cases h0 : n = 0
    · exact .inl h0
    · right
      obtain ⟨b, o, spot⟩ := x
      have h1 := (hcell 0 (by omega)).1
      have hsp : spot = none := by simpa [Addr.add] using World.cell?_spot h1
      subst hsp
      refine ⟨b, o, rfl, fun i hi => ?_⟩
      have h2 := (hcell i (by simp at hi; omega)).1
      have e : (⟨b, o, none⟩ : Addr).add i = ⟨b, o + i, none⟩ := by unfold Addr.add; split <;> simp_all
      rw [e] at h2
      rw [h2]
      simp
theorem open_spec {r : Reach} {b0 base : Nat} {v : Value} {d : DataW H} {p : List MemPlace} (hv : Value.okWide Try.prog W r b0 27 v) (h : DataW.Trod enc Try.prog W base (fun _ => true) true 27 v d p) :
    ∃ x : Sp.Spc, v = .agg x.cells ∧ x.wf ∧ Sp.Dp W x.a x.n x.ds ∧ x.n ≤ maxLen := by
  obtain ⟨cs, rfl, hsz⟩ := okWide_struct Try.underlying27 hv
  obtain ⟨l⟩ := cs
  have hc : Try.prog.cellsOf 27 = 11 := by kernel_rfl
  match l, hsz.trans hc with
  | [c0, c1, c2, c3, c4, c5, c6, c7, c8, c9, c10], _ =>
    obtain ⟨fuel, hf⟩ := h
    obtain ⟨xs, n, _, _, _, hlen, hg⟩ := DataW.trod_struct Try.underlying27 hf
    have g0 := hg 0 _ rfl
    have g1 := hg 1 _ rfl
    have g2 := hg 2 _ rfl
    have g3 := hg 3 _ rfl
    have g4 := hg 4 _ rfl
    have g5 := hg 5 _ rfl
    have g6 := hg 6 _ rfl
    have g7 := hg 7 _ rfl
    have g8 := hg 8 _ rfl
    have g9 := hg 9 _ rfl
    have g10 := hg 10 _ rfl
    match xs, hlen with
    | [y0, y1, y2, y3, y4, y5, y6, y7, y8, y9, y10], _ =>
      obtain ⟨m0, rfl⟩ := str_one (show DataW.trod enc Try.prog W base (fun _ => true) true n 9 [c0] = some y0 from g0)
      obtain ⟨m1, rfl⟩ := str_one (show DataW.trod enc Try.prog W base (fun _ => true) true n 9 [c1] = some y1 from g1)
      obtain ⟨m2, rfl, b2⟩ := int_one Try.underlying3 (show DataW.trod enc Try.prog W base (fun _ => true) true n 3 [c2] = some y2 from g2)
      obtain ⟨m3, rfl, b3⟩ := int_one Try.underlying2 (show DataW.trod enc Try.prog W base (fun _ => true) true n 2 [c3] = some y3 from g3)
      obtain ⟨a, k, c, ds, rfl, hd, hk⟩ := row_one (show DataW.trod enc Try.prog W base (fun _ => true) true n 25 [c4] = some y4 from g4)
      obtain ⟨m5, rfl, b5⟩ := int_one Try.underlying2 (show DataW.trod enc Try.prog W base (fun _ => true) true n 2 [c5] = some y5 from g5)
      obtain ⟨m6, rfl, b6⟩ := int_one Try.underlying2 (show DataW.trod enc Try.prog W base (fun _ => true) true n 2 [c6] = some y6 from g6)
      obtain ⟨m7, rfl, b7⟩ := int_one Try.underlying3 (show DataW.trod enc Try.prog W base (fun _ => true) true n 3 [c7] = some y7 from g7)
      obtain ⟨m8, rfl, b8⟩ := int_one Try.underlying2 (show DataW.trod enc Try.prog W base (fun _ => true) true n 2 [c8] = some y8 from g8)
      obtain ⟨m9, rfl⟩ := str_one (show DataW.trod enc Try.prog W base (fun _ => true) true n 9 [c9] = some y9 from g9)
      obtain ⟨m10, rfl, b10⟩ := int_one Try.underlying3 (show DataW.trod enc Try.prog W base (fun _ => true) true n 3 [c10] = some y10 from g10)
      exact ⟨⟨m0, m1, m2, m3, a, k, c, ds, m5, m6, m7, m8, m9, m10⟩, rfl, ⟨b2, b3, b5, b6, b7, b8, b10⟩, hd, hk⟩
end
end Go.Proofs.Ytfidmjpjfigmcaa.SpPa
