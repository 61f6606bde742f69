
/- specs: copies, and whether one is little -/
import Derived.Test.YtkkanggkbbmfnaaDoorSpM
import Derived.Laws.AppendOwnNone
import Derived.BigQuiet
import Derived.Lib.SmallJoins
namespace Go.Proofs.YtkkanggkbbmfnaaDoor.Sp
open Go.RowKit Go.Lib Rf By
set_option linter.unusedVariables false
set_option maxRecDepth 20000
theorem info9 : (Tryd.prog.info? 9).map (fun i => (i.zero, i.size, i.bytes)) = some (some (.string ⟨#[]⟩), 1, 16) := by kernel_rfl
theorem addl (b o j : Nat) : (⟨b, o, none⟩ : Addr).add j = ⟨b, o + j, none⟩ := by unfold Addr.add; split <;> simp_all
/-- a spec's block, cell by cell -/
def At (w : World) (b : Nat) (nm tn : ByteArray) (pr dl : Int) (a : Option Addr) (n c : Nat) (bs cp at' ls : Int) (cr : ByteArray) (ct : Int) : Prop :=
  w.heap[b]? = some (.cells #[.string nm, .string tn, .int .i64 pr, .int .i64 dl, .slice a n c, .int .i64 bs, .int .i64 cp, .int .i64 at', .int .i64 ls, .string cr, .int .i64 ct] 24 (0, 0))
theorem eleven {w : World} {b : Nat} {v0 v1 v2 v3 v4 v5 v6 v7 v8 v9 v10 : Value} {t : TypeId} (h : w.heap[b]? = some (.cells #[v0, v1, v2, v3, v4, v5, v6, v7, v8, v9, v10] t (0, 0))) :
    (w.cell? ⟨b, 0, none⟩ = some v0 ∧ w.cell? ⟨b, 1, none⟩ = some v1 ∧ w.cell? ⟨b, 2, none⟩ = some v2 ∧ w.cell? ⟨b, 3, none⟩ = some v3 ∧ w.cell? ⟨b, 4, none⟩ = some v4 ∧ w.cell? ⟨b, 5, none⟩ = some v5 ∧ w.cell? ⟨b, 6, none⟩ = some v6 ∧
      w.cell? ⟨b, 7, none⟩ = some v7 ∧ w.cell? ⟨b, 8, none⟩ = some v8 ∧ w.cell? ⟨b, 9, none⟩ = some v9 ∧ w.cell? ⟨b, 10, none⟩ = some v10) ∧ ∀ k, w.frozen? ⟨b, k, none⟩ = false := by
  refine ⟨⟨?_, ?_, ?_, ?_, ?_, ?_, ?_, ?_, ?_, ?_, ?_⟩, fun k => ?_⟩ <;> simp [World.cell?, World.frozen?, h]
theorem old2 {w w' : World} {k : Nat} {o : Obj} (h : Below w.heap.size w w') (e : w.heap[k]? = some o) : w'.heap[k]? = some o := (h.block k (Array.getElem?_eq_some_iff.1 e).1).trans e
theorem results_c1 {fn : Func} {p : Tmp} {ty : TypeId} (h : fn.results = #[.cell p ty]) (tmps : Array Value) (P : Program) (w : World) :
    (results fn tmps).run P w = ((asAddr (tmps.getD p undef)).run P w).andThen fun a w₁ => (loadVar ty a).run P w₁ := by
  simp only [results, h]
  simp [Sem.run_bind, Result.andThen]
/-- a row of one's own -/
theorem dp_own {w : World} {B : Nat} {v : Value} {n : Nat} {ds : List ByteArray} (h : w.ownsRow B 9 1 v n (ds.map Value.string)) (hl : ds.length = n) :
    ∃ a c, v = .slice a n c ∧ Dp w a n ds ∧ (n = 0 ∨ ∃ g cur, a = some ⟨g, 0, none⟩ ∧ B ≤ g ∧ w.heap[g]? = some (.cells cur 9 (0, 0)) ∧ n ≤ cur.size) := by
  rcases h.2 with ⟨rfl, h0⟩ | ⟨g, cap, cur, rfl, h2, h3, h4, h5, h6, h7⟩
  · exact ⟨none, 0, by rw [h0], ⟨hl, ⟨fun _ => h0, .inl h0⟩⟩, .inl h0⟩
  · refine ⟨some ⟨g, 0, none⟩, cap, rfl, ⟨hl, ⟨fun e => (by cases e), Or.inr ⟨g, 0, rfl, fun i hi => ?_⟩⟩⟩, Or.inr ⟨g, cur, rfl, h2, h3, by omega⟩⟩
    have := h.cells rfl i (.string ds[i]) (by simp [hi])
    rwa [addl] at this
end Go.Proofs.YtkkanggkbbmfnaaDoor.Sp
