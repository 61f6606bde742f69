
/- the document's answer for an expression: maps of values; their plain mathematics -/
import Derived.Test.YtheaimlfngaaoaaDoorRc3
import Derived.Maps.OwnOps
import Derived.Maps.Views
import Derived.Maps.AppendAt
namespace Go.Proofs.YtheaimlfngaaoaaDoor.Cn
open Go.RowKit Go.Lib
open Go.Maps (Keyed)
set_option linter.unusedVariables false

/-- a map of at most n numbers, that holds true at those of p -/
def Mb (w : World) (b n : Nat) (p : Nat → Bool) : Prop :=
  ∃ D : DataW Unit, w.ownsMap Tryd.prog 3 (plainElem Tryd.prog 4) b n D ∧ ∀ i : Nat, D.atKey (.int .i64 (i : Nat)) (.lit (.bool false)) = .lit (.bool (p i))
theorem wf_nat {i : Nat} (h : i ≤ 1000000) : (Lit.int .i64 (i : Nat)).wf = true := by
  simp [Lit.wf, IntKind.min, IntKind.max, IntKind.signed, IntKind.bits]; omega
theorem key_nat {i : Nat} (h : i ≤ 1000000) : keyOf Tryd.prog 3 (.int .i64 (i : Nat)) = some (.int .i64 (i : Nat)) := Maps.keyOf_int_mk Tryd.underlying3 (wf_nat h)
theorem keyed : Keyed Tryd.prog 3 := Maps.int_keyed Tryd.underlying3
theorem Mb.made (w : World) : Mb (w.alloc (.map #[] 0)) w.heap.size 0 (fun _ => false) := ⟨_, World.ownsMap_made w _ _ _, fun _ => rfl⟩
theorem Mb.congr {w : World} {b n : Nat} {p q : Nat → Bool} (h : Mb w b n p) (e : ∀ i, p i = q i) : Mb w b n q := by
  obtain ⟨D, h1, h2⟩ := h
  exact ⟨D, h1, fun i => by rw [h2 i, e i]⟩
theorem Mb.mono {w : World} {b n m : Nat} {p : Nat → Bool} (h : Mb w b n p) (e : n ≤ m) : Mb w b m p := by
  obtain ⟨D, h1, h2⟩ := h
  exact ⟨D, h1.mono e, h2⟩
theorem Mb.at {w : World} {b n : Nat} {p : Nat → Bool} (h : Mb w b n p) : ∃ es clock, w.heap[b]? = some (.map es clock) := by
  obtain ⟨D, ⟨es, clock, h1, _⟩, _⟩ := h
  exact ⟨es, clock, h1⟩
theorem Mb.lt {w : World} {b n : Nat} {p : Nat → Bool} (h : Mb w b n p) : b < w.heap.size := by
  obtain ⟨es, c, e⟩ := h.at
  exact (Array.getElem?_eq_some_iff.1 e).1
theorem Mb.kept {w Y : World} {b n : Nat} {p : Nat → Bool} (h : Mb w b n p) (e : Y.heap[b]? = w.heap[b]?) : Mb Y b n p := by
  obtain ⟨D, ⟨es, clock, h1, h2⟩, h3⟩ := h
  exact ⟨D, ⟨es, clock, e.trans h1, h2⟩, h3⟩
theorem Mb.old {w Y : World} {b n : Nat} {p : Nat → Bool} (h : Mb w b n p) (e : Below w.heap.size w Y) : Mb Y b n p := h.kept (e.block b h.lt)
set_option maxRecDepth 20000 in
theorem Mb.look {w Y : World} {b n : Nat} {p : Nat → Bool} (h : Mb w b n p) (e : Y.heap[b]? = w.heap[b]?) {i : Nat} (hi : i ≤ 1000000) :
    (Instr.lookup 61 (.map (some b)) (.int .i64 (i : Nat)) false).run Tryd.prog Y = .ok (.bool (p i)) Y := by
  obtain ⟨D, hm, hD⟩ := h.kept e
  have hz : (zeroValue 4).run Tryd.prog Y = .ok (.bool false) Y := by go_simp
  obtain ⟨v, ps, hr, hv⟩ := hm.lookup keyed Tryd.underlying61 hz (z := .bool false) (zd := .lit (.bool false)) (zp := []) (plainElem_bool Tryd.underlying4 false) (key_nat hi)
  rw [hD i] at hv
  have : v = .bool (p i) := by
    unfold plainElem at hv
    rw [Tryd.underlying4] at hv
    cases v <;> simp at hv
    rw [hv.1]
  rw [this] at hr
  exact hr
theorem Mb.put {w : World} {b n : Nat} {p : Nat → Bool} (h : Mb w b n p) (hn : n ≤ 1000000) {i : Nat} (hi : i ≤ 1000000) :
    ∃ w2, (Instr.mapUpdate 61 (.map (some b)) (.int .i64 (i : Nat)) (.bool true)).run Tryd.prog w = .ok () w2 ∧ Mb w2 b (n + 1) (fun j => p j || decide (j = i)) ∧ w.grownBy w2 (some b) := by
  obtain ⟨D, hm, hD⟩ := h
  obtain ⟨w2, hr, hm2, hg2⟩ := hm.update keyed Tryd.underlying61 (by unfold maxLen; omega) (key_nat hi) (plainElem_bool Tryd.underlying4 true)
  refine ⟨w2, hr, ⟨_, hm2, fun j => ?_⟩, hg2⟩
  by_cases e : j = i
  · subst e
    rw [Maps.atKey_put_same hm.isMap (by trivial)]
    simp
  · rw [Maps.atKey_put_other (by simp; omega), hD j]
    simp [e]
theorem grown_of {b : Nat} {w w' : World} (h : Below w.heap.size w w') : w.grownBy w' (some b) := ⟨h.os, h.tape, h.output, h.size, fun k hk _ => h.block k hk⟩
theorem grown_below {B b : Nat} {a w w' : World} (h : Below B a w) (hg : w.grownBy w' (some b)) (hB : B ≤ w.heap.size) (hb : B ≤ b) : Below B a w' := h.grown hg hB (fun k e => by cases e; exact hb)
/-- a row of cells isn't a map's block -/
theorem row_kept {w w' : World} {B b : Nat} {e : TypeId} {v : Value} {n : Nat} {xs : List Value} (h : w.ownsRow B e 1 v n xs) (hg : w.grownBy w' (some b)) (hb : ∃ es clock, w.heap[b]? = some (.map es clock)) : w'.ownsRow B e 1 v n xs := by
  refine h.kept hg ?_
  cases hv : v.ownBlock with
  | none => exact .inl rfl
  | some g =>
    refine .inr fun e2 => ?_
    obtain rfl := Option.some.inj e2
    obtain ⟨es, clock, hm⟩ := hb
    rcases h.2 with ⟨rfl, _⟩ | ⟨g', cap, cur, rfl, _, hg', _⟩
    · cases hv
    · cases hv
      rw [hg'] at hm; cases hm
/-- a weekday's number -/
def fx (i x : Nat) : Nat := if i = 4 ∧ x = 7 then 0 else x
/-- a field's values, by its pieces -/
def fp (i : Nat) (qs : List L) (z : Nat) : Bool := if i = 4 then fold (setF (fds i) qs) z else setF (fds i) qs z
theorem fp_zero (i z : Nat) : fp i [] z = false := by unfold fp fold setF; split <;> simp
theorem fp_next (i : Nat) (qs : List L) (p : L) (l : List Nat) (h : ∀ z, z ∈ l ↔ inP (readT (fds i) p).1 z = true) (z : Nat) :
    fp i (qs ++ [p]) z = (fp i qs z || l.any fun x => decide (fx i x = z)) := by
  have h2 : ∀ y, setF (fds i) (qs ++ [p]) y = (setF (fds i) qs y || decide (y ∈ l)) := fun y => by
    unfold setF
    rw [List.any_append, List.any_cons, List.any_nil, Bool.or_false]
    congr 1
    rw [Bool.eq_iff_iff, decide_eq_true_eq]
    exact (h y).symm
  unfold fp
  by_cases hi : i = 4
  · rw [if_pos hi, if_pos hi]
    unfold fold
    rw [h2, h2, Bool.eq_iff_iff]
    simp only [Bool.or_eq_true, Bool.and_eq_true, decide_eq_true_eq, Bool.not_eq_true', decide_eq_false_iff_not, List.any_eq_true]
    unfold fx
    constructor
    · rintro (⟨h3 | h3, h4⟩ | ⟨h3, h4 | h4⟩)
      · exact .inl (.inl ⟨h3, h4⟩)
      · exact .inr ⟨z, h3, by rw [if_neg (by omega)]⟩
      · exact .inl (.inr ⟨h3, h4⟩)
      · exact .inr ⟨7, h4, by rw [if_pos ⟨hi, rfl⟩]; omega⟩
    · rintro ((⟨h3, h4⟩ | ⟨h3, h4⟩) | ⟨x, h3, h4⟩)
      · exact .inl ⟨.inl h3, h4⟩
      · exact .inr ⟨h3, .inl h4⟩
      · by_cases hx : x = 7
        · rw [if_pos ⟨hi, hx⟩] at h4
          subst hx
          exact .inr ⟨h4.symm, .inr h3⟩
        · rw [if_neg (by omega)] at h4
          subst h4
          exact .inl ⟨.inr h3, hx⟩
  · rw [if_neg hi, if_neg hi, h2, Bool.eq_iff_iff]
    simp only [Bool.or_eq_true, decide_eq_true_eq, List.any_eq_true]
    unfold fx
    constructor
    · rintro (h3 | h3)
      · exact .inl h3
      · exact .inr ⟨z, h3, by rw [if_neg (by omega)]⟩
    · rintro (h3 | ⟨x, h3, h4⟩)
      · exact .inl h3
      · rw [if_neg (by omega)] at h4
        subst h4; exact .inr h3
end Go.Proofs.YtheaimlfngaaoaaDoor.Cn
