
/- rows that are written: what each one is -/
import Derived.Test.YtcodjknhnhdkfaaDoorCm2
namespace Go.Proofs.YtcodjknhnhdkfaaDoor.Cm
open Go.RowKit Go.Lib Wn Rf By
set_option linter.unusedVariables false
set_option maxRecDepth 20000
/-- a row that may be read -/
def Da {E : Type} (val : E → Value) (w : World) (a : Option Addr) (n : Nat) (xs : List E) : Prop :=
  xs.length = n ∧ (a = none → n = 0) ∧ (n = 0 ∨ ∃ b o, a = some ⟨b, o, none⟩ ∧ ∀ i (h : i < xs.length), w.cell? ⟨b, o + i, none⟩ = some (val xs[i]))
theorem Da.old {E : Type} {val : E → Value} {w w' : World} {a : Option Addr} {n : Nat} {xs : List E} (h : Da val w a n xs) (hb : Below w.heap.size w w') : Da val w' a n xs := by
  refine ⟨h.1, h.2.1, ?_⟩
  rcases h.2.2 with h0 | ⟨b, o, h1, h2⟩
  · exact .inl h0
  · exact .inr ⟨b, o, h1, fun i hi => (hb.cell (World.block_lt_of_cell? w _ (h2 i hi))).trans (h2 i hi)⟩
def iv (x : Int) : Value := .int .i64 x
def ie (x : Int) : List UInt8 := uvarint x.toNat
def iok (x : Int) : Prop := 0 ≤ x ∧ x < 9223372036854775808
theorem _root_.Go.Proofs.YtcodjknhnhdkfaaDoor.Wn.Fr.ofBelow {B pb : Nat} {a b : World} (h : Below a.heap.size a b) (hB : B ≤ a.heap.size) : Fr B pb a b :=
  ⟨h.os, h.tape, h.output, h.size, fun k hk _ => h.block k (by omega), fun k hk _ _ => h.block k hk⟩
theorem _root_.Go.Proofs.YtcodjknhnhdkfaaDoor.Wn.Fr.cell {B pb : Nat} {a b : World} (h : Fr B pb a b) {p : Addr} (hp : p.block < B) (hn : p.block ≠ pb) : b.cell? p = a.cell? p := World.cell?_of_block (w := a) (h.block _ hp hn)
def Put1 (B pb : Nat) (bs : List UInt8) (w : World) (e : Ending) (w' : World) : Prop := e = .returned (.tuple #[]) ∧ Wr B w' pb bs ∧ Fr B pb w w'
theorem text_w (B pb : Nat) (s : ByteArray) (bs : List UInt8) (w : World) (hx : s.size ≤ 1000000000) (hpb : pb < B) (hB : B ≤ w.heap.size) (hw : Wr B w pb bs) (hlen : bs.length ≤ 10000000000) :
    Calls Tryd.prog 35 #[.pointer (some ⟨pb, 0, none⟩), .string s] w (Put1 B pb (bs ++ textB s) w) := wtext_any B pb s bs w hpb hB hw hx (by omega)
theorem int_w (B pb : Nat) (x : Int) (bs : List UInt8) (w : World) (hx : Sp.W64 x) (hpb : pb < B) (hB : B ≤ w.heap.size) (hw : Wr B w pb bs) (hlen : bs.length ≤ 10000000000) :
    Calls Tryd.prog 12 #[.pointer (some ⟨pb, 0, none⟩), .int .i64 x] w (Put1 B pb (bs ++ Sp.zz x) w) := int_any B pb x bs w hx hpb hB hw (by omega)
theorem num_w (B pb : Nat) (x : Nat) (bs : List UInt8) (w : World) (hx : U64 x) (hpb : pb < B) (hB : B ≤ w.heap.size) (hw : Wr B w pb bs) (hlen : bs.length ≤ 10000000000) :
    Calls Tryd.prog 14 #[.pointer (some ⟨pb, 0, none⟩), .int .u64 x] w (Put1 B pb (bs ++ uvarint x) w) := num_any B pb x bs w hx hpb hB hw (by omega)
theorem flat_take {E : Type} (enc : E → List UInt8) (xs : List E) (k : Nat) : ((xs.take k).flatMap enc).length ≤ (xs.flatMap enc).length := by
  have := congrArg (fun l => (l.flatMap enc).length) (List.take_append_drop k xs)
  simp only [List.flatMap_append, List.length_append] at this
  omega
theorem flat_succ {E : Type} (enc : E → List UInt8) {xs : List E} {k : Nat} (h : k < xs.length) : (xs.take (k + 1)).flatMap enc = (xs.take k).flatMap enc ++ enc xs[k] := by
  rw [List.take_succ_eq_append_getElem h, List.flatMap_append]; simp
end Go.Proofs.YtcodjknhnhdkfaaDoor.Cm
