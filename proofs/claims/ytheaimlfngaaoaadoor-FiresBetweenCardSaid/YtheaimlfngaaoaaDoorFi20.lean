
/- fires: FiresBetween's walk, for all that comes in -/
import Derived.Test.YtheaimlfngaaoaaDoorFi19
namespace Go.Proofs.YtheaimlfngaaoaaDoor.Fi
open Go.RowKit Go.Lib Go.Proofs.YtheaimlfngaaoaaDoor.Cn
set_option linter.unusedVariables false

theorem wf_i64 {a : Int} (ha : (Lit.int .i64 a).wf = true) : Ca.I64 a := by simpa [Ca.I64, Lit.wf, IntKind.min, IntKind.max, IntKind.signed, IntKind.bits] using ha
theorem between_law (s : ByteArray) (a to most : Int) (ha : (Lit.int .i64 a).wf = true) (ht : (Lit.int .i64 to).wf = true) (hm : (Lit.int .i64 most).wf = true) (w : World) (hg : Gd w) :
    Calls Tryd.prog 4 #[.string s, .int .i64 a, .int .i64 to, .int .i64 most] w fun e w' => e = .returned (.bool true) ∧ Below w.heap.size w w' := by
  rw [show Value.string s = S s.data.toList by cases s; simp [S]]
  exact between_in _ a to most (wf_i64 ha) (wf_i64 ht) (wf_i64 hm) w hg
end Go.Proofs.YtheaimlfngaaoaaDoor.Fi
