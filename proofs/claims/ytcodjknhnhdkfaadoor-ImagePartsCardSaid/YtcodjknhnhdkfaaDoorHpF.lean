
/- heaps: what lies elsewhere stays; keys in order; rows that are kept or not (of no program) -/
import Derived.Test.YtcodjknhnhdkfaaDoorHpMp
import Derived.Sort.EncStr
import Derived.Sort.Walk0
import Derived.Lib.BufferMore
import Derived.Laws.Rows
namespace Go.Proofs.YtcodjknhnhdkfaaDoor.Hp
open Go.RowKit Go.Maps Go.Sort
set_option linter.unusedVariables false
set_option linter.unusedSectionVars false

/-- but for the blocks of S all lies as it lay -/
structure Fr (S : Nat → Prop) (w w' : World) : Prop where
  os : w'.os = w.os
  tape : w'.tape = w.tape
  output : w'.output = w.output
  size : w.heap.size ≤ w'.heap.size
  block : ∀ k, k < w.heap.size → ¬ S k → w'.heap[k]? = w.heap[k]?
theorem Fr.refl (S : Nat → Prop) (w : World) : Fr S w w := ⟨rfl, rfl, rfl, Nat.le_refl _, fun _ _ _ => rfl⟩
theorem Fr.trans {S S' : Nat → Prop} {a b c : World} (h : Fr S a b) (k : Fr S' b c) (hs : ∀ x, S' x → S x ∨ a.heap.size ≤ x) : Fr S a c :=
  ⟨k.os.trans h.os, k.tape.trans h.tape, k.output.trans h.output, Nat.le_trans h.size k.size, fun x hx hn => (k.block x (Nat.lt_of_lt_of_le hx h.size) (fun e => (hs x e).elim hn (by omega))).trans (h.block x hx hn)⟩
theorem Fr.mono {S S' : Nat → Prop} {a b : World} (h : Fr S a b) (hs : ∀ x, x < a.heap.size → S x → S' x) : Fr S' a b := ⟨h.os, h.tape, h.output, h.size, fun x hx hn => h.block x hx (fun e => hn (hs x hx e))⟩
theorem Fr.grown {S : Nat → Prop} {w w' : World} {b : Nat} (h : w.grownBy w' (some b)) (hb : S b ∨ w.heap.size ≤ b) : Fr S w w' :=
  ⟨h.os, h.tape, h.output, h.size, fun k hk hn => h.block k hk (fun e => by obtain rfl := Option.some.inj e; rcases hb with hb | hb; exact hn hb; omega)⟩
theorem Fr.grownN {S : Nat → Prop} {w w' : World} {r : Option Nat} (h : w.grownBy w' r) (hb : ∀ b, r = some b → S b ∨ w.heap.size ≤ b) : Fr S w w' :=
  ⟨h.os, h.tape, h.output, h.size, fun k hk hn => h.block k hk (fun e => by rcases hb k e.symm with hb | hb; exact hn hb; omega)⟩
theorem Fr.alloc (S : Nat → Prop) (w : World) (o : Obj) : Fr S w (w.alloc o) := Fr.grownN (World.grownBy_alloc w o none) (fun _ e => by cases e)
theorem Fr.below {S : Nat → Prop} {w w' : World} {B : Nat} (h : Fr S w w') (hB : B ≤ w.heap.size) (hs : ∀ k, S k → B ≤ k) : Below B w w' :=
  ⟨h.os, h.tape, h.output, h.size, fun k hk => h.block k (by omega) (fun e => by have := hs k e; omega)⟩
theorem Fr.of_below {S : Nat → Prop} {w w' : World} (h : Below w.heap.size w w') : Fr S w w' := ⟨h.os, h.tape, h.output, h.size, fun k hk _ => h.block k hk⟩
theorem Fr.cell {S : Nat → Prop} {w w' : World} (h : Fr S w w') {a : Addr} {v : Value} (hc : w.cell? a = some v) (hn : ¬ S a.block) : w'.cell? a = some v := by
  have hl := World.block_lt_of_cell? _ _ hc
  have hb := h.block a.block hl hn
  unfold World.cell? at hc ⊢
  rw [hb]; exact hc
theorem Fr.drew {S : Nat → Prop} {w w' : World} (h : Fr S w w') : Fr S w w'.drew := ⟨h.os, h.tape, h.output, h.size, h.block⟩
/-- a whole order -/
structure Tot (K : Type) [LT K] : Prop where
  irrefl : ∀ x : K, ¬ x < x
  trans : ∀ x y z : K, x < y → y < z → x < z
  tri : ∀ x y : K, x < y ∨ x = y ∨ y < x
theorem tot_int : Tot Int := ⟨fun _ => by omega, fun _ _ _ => by omega, fun _ _ => by omega⟩
theorem tot_str : Tot (List UInt8) where
  irrefl x h := List.lt_irrefl x h
  trans x y z h1 h2 := List.lt_trans h1 h2
  tri x y := by
    by_cases h1 : x < y
    · exact .inl h1
    · by_cases h2 : y < x
      · exact .inr (.inr h2)
      · exact .inr (.inl (List.le_antisymm (List.not_lt.1 h2) (List.not_lt.1 h1)))
section
variable {K : Type} [LT K] [DecidableEq K] [DecidableLT K]
/-- the one with the lesser rank is first, of ranks that are alike the lesser key -/
def ltp (x y : K × Int) : Bool := decide (x.2 < y.2) || (decide (x.2 = y.2) && decide (x.1 < y.1))
theorem ltp_iff (x y : K × Int) : ltp x y = true ↔ x.2 < y.2 ∨ (x.2 = y.2 ∧ x.1 < y.1) := by unfold ltp; simp
theorem ltp_false (x y : K × Int) : ltp x y = false ↔ ¬ (x.2 < y.2 ∨ (x.2 = y.2 ∧ x.1 < y.1)) := by rw [← ltp_iff]; simp
theorem tot_nlt {x y : K} (T : Tot K) : ¬ x < y ↔ x = y ∨ y < x := by
  constructor
  · intro h
    rcases T.tri x y with h1 | h1 | h1
    · exact absurd h1 h
    · exact .inl h1
    · exact .inr h1
  · rintro (rfl | h) h2
    · exact T.irrefl _ h2
    · exact T.irrefl _ (T.trans _ _ _ h h2)
theorem swo (T : Tot K) : SWO (ltp (K := K)) where
  irrefl x := (ltp_false _ _).2 (by rintro (h | ⟨_, h⟩); omega; exact T.irrefl _ h)
  trans x y z h1 h2 := by
    rw [ltp_iff] at *
    rcases h1 with h1 | ⟨h1, h3⟩ <;> rcases h2 with h2 | ⟨h2, h4⟩
    · exact .inl (by omega)
    · exact .inl (by omega)
    · exact .inl (by omega)
    · exact .inr ⟨by omega, T.trans _ _ _ h3 h4⟩
  ntrans x y z h1 h2 := by
    rw [ltp_false] at *
    rintro (h | ⟨h, h3⟩)
    · have : ¬ x.2 < y.2 := fun e => h1 (.inl e)
      exact h2 (.inl (by omega))
    · have e1 : ¬ x.2 < y.2 := fun e => h1 (.inl e)
      have e2 : ¬ y.2 < z.2 := fun e => h2 (.inl e)
      have e3 : ¬ x.1 < y.1 := fun e => h1 (.inr ⟨by omega, e⟩)
      have e4 : ¬ y.1 < z.1 := fun e => h2 (.inr ⟨by omega, e⟩)
      rw [tot_nlt T] at e3 e4
      rcases e3 with e3 | e3 <;> rcases e4 with e4 | e4
      · rw [e3, e4] at h3; exact T.irrefl _ h3
      · rw [e3] at h3; exact T.irrefl _ (T.trans _ _ _ h3 e4)
      · rw [← e4] at h3; exact T.irrefl _ (T.trans _ _ _ h3 e3)
      · exact T.irrefl _ (T.trans _ _ _ h3 (T.trans _ _ _ e4 e3))
theorem ltp_tri (T : Tot K) (x y : K × Int) : ltp x y = true ∨ x = y ∨ ltp y x = true := by
  rw [ltp_iff, ltp_iff]
  rcases T.tri x.1 y.1 with h | h | h
  · by_cases e : x.2 = y.2
    · exact .inl (.inr ⟨e, h⟩)
    · by_cases e2 : x.2 < y.2
      · exact .inl (.inl e2)
      · exact .inr (.inr (.inl (by omega)))
  · by_cases e : x.2 = y.2
    · exact .inr (.inl (Prod.ext h e))
    · by_cases e2 : x.2 < y.2
      · exact .inl (.inl e2)
      · exact .inr (.inr (.inl (by omega)))
  · by_cases e : x.2 = y.2
    · exact .inr (.inr (.inr ⟨e.symm, h⟩))
    · by_cases e2 : x.2 < y.2
      · exact .inl (.inl e2)
      · exact .inr (.inr (.inl (by omega)))
/-- what 'compare' answers -/
def cfp (x y : K × Int) : Int := if x.2 < y.2 then -1 else if y.2 < x.2 then 1 else if x.1 < y.1 then -1 else if y.1 < x.1 then 1 else 0
theorem cfp_neg (x y : K × Int) : decide (cfp x y < 0) = ltp x y := by
  unfold cfp ltp
  by_cases h1 : x.2 < y.2
  · simp [h1]
  · by_cases h2 : y.2 < x.2
    · simp [h1, h2]; omega
    · have h3 : x.2 = y.2 := by omega
      by_cases h4 : x.1 < y.1
      · simp [h3, h4]
      · by_cases h5 : y.1 < x.1 <;> simp [h3, h4, h5]
end
theorem keyOf_str {P : Program} {k : TypeId} (h : P.underlying k = some .string) {l : List UInt8} (hl : l.length ≤ maxLen) : keyOf P k (encStr l) = some (.string l) := by
  have := WideMaps.keyOf_string_mk (P := P) (k := k) h (s := ⟨l.toArray⟩) (by show l.toArray.size ≤ maxLen; simpa using hl)
  simpa [encStr] using this
end Go.Proofs.YtcodjknhnhdkfaaDoor.Hp
namespace Go.Proofs.YtcodjknhnhdkfaaDoor.Hp
theorem gtr_str {P : Program} {t : TypeId} (x y : List UInt8) (W : World) : (binOp .gtr t (.string ⟨x.toArray⟩) (.string ⟨y.toArray⟩)).run P W = .ok (.bool (decide (y < x))) W := by
  have e : (!decide (x < y) && !(x == y)) = decide (y < x) := by
    rcases tot_str.tri x y with h | h | h
    · have h2 : ¬ y < x := fun h2 => tot_str.irrefl _ (tot_str.trans _ _ _ h h2)
      simp [h, h2]
    · subst h; simp [tot_str.irrefl]
    · have h2 : ¬ x < y := fun h2 => tot_str.irrefl _ (tot_str.trans _ _ _ h h2)
      have h3 : x ≠ y := fun e => by subst e; exact tot_str.irrefl _ h
      simp [h, h2, h3]
  simp [binOp, Op.stringOp, bytesLess_eq, Lib.toList_data, ← e, go_sem]
end Go.Proofs.YtcodjknhnhdkfaaDoor.Hp
