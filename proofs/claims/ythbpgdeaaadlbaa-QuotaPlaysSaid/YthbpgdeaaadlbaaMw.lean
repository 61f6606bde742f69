
/- a range over a map, its steps bundled, so that a walk leaves them whole (of no program) -/
import Derived.Test.YthbpgdeaaadlbaaMv
namespace Go.Proofs.Ythbpgdeaaadlbaa.Mv
open Go.RowKit Go.Maps Go.WideElems Go.ChangeMaps Go.MapKept
set_option linter.unusedVariables false
/-- all were told -/
def Done {K : Type} (wk : K → Prop) (f : K → Option Value) (es : List K) : Prop := ∀ k, wk k → (f k).isSome = true → k ∈ es
/-- one more is told -/
structure More (P : Program) (tk : TypeId) {K : Type} (ek : K → Value) (wk : K → Prop) (w : World) (b r : Nat) (f : K → Option Value) (es : List K) (cnt : Nat) where
  k : K
  v : Value
  w' : World
  cnt' : Nat
  ok : wk k
  is : f k = some v
  new : k ∉ es
  rg : Rgs P tk ek wk w' b r f (es ++ [k]) cnt'
  lt : cnt' < cnt
  grown : w.grownBy w' (some r)
  size : w'.heap.size = w.heap.size
section
variable {P : Program} {t tk te : TypeId} {z : Value} {K : Type} [DecidableEq K] {ek : K → Value} {wk : K → Prop}
variable {ops : Array Oper} {rest : List Oper} {o : Oper} {a : Act} {Q : Exit → Act → World → Prop}
theorem wpList_nextQ (κ : Kind P t tk te z ek wk) (w : World) (hg : o.guard = none) (it : Operand) (hop : o.op = Op.next it false) (b r : Nat) (f : K → Option Value) (es : List K) (cnt : Nat)
    (hit : a.eval it = .pointer (some ⟨r, 0, none⟩)) (h : Rgs P tk ek wk w b r f es cnt)
    (hDone : Done wk f es → wpList P ops Q rest (a.put o.dst (.tuple #[.bool false])) w)
    (hMore : ∀ q : More P tk ek wk w b r f es cnt, (Instr.entry (.pointer (some ⟨r, 0, none⟩))).run P q.w' = .ok (.tuple #[ek q.k, q.v]) q.w' → wpList P ops Q rest (a.put o.dst (.tuple #[.bool true, ek q.k, q.v])) q.w') :
    wpList P ops Q (o :: rest) a w :=
  wpList_next κ w hg it hop b r f es cnt hit h hDone fun k v w' cnt' h1 h2 h3 h4 h5 h6 h7 h8 => hMore ⟨k, v, w', cnt', h1, h2, h3, h4, h5, h6, h7⟩ h8
end
end Go.Proofs.Ythbpgdeaaadlbaa.Mv
