
/- heaps of string and uint64: how they lie -/
import Derived.Test.YtomkefaakgodhaaHpF
import Derived.Test.YtomkefaakgodhaaHs
namespace Go.Proofs.Ytomkefaakgodhaa.HpE
open Go.RowKit Go.Lib Go.Sort Hp
set_option linter.unusedVariables false

abbrev K := List UInt8
def ek (k : List UInt8) : Value := .string ⟨k.toArray⟩
def kl (k : List UInt8) : Lit := .string k
def wk (k : List UInt8) : Prop := k.length ≤ 1000
def er (r : Int) : Value := .int .u64 r
theorem key_of (k : List UInt8) (hk : wk k) : keyOf Try.prog 9 (ek k) = some (kl k) := Hp.keyOf_str Try.underlying9 (by unfold wk at hk; unfold maxLen; omega)
theorem kind : Kind Try.prog 74 9 3 .i64 ek kl wk where
  map := Try.underlying74
  elem := Try.underlying3
  zero w := by go_simp
  keyed := Maps.string_keyed Try.underlying9
  key := key_of
  inj k k' h := by simpa [kl] using h
/-- where each key's item stands, as the map tells it -/
def mf (f : K → Option Nat) : K → Option Int := fun k => (f k).map fun i => ((i : Nat) : Int)
abbrev Mq (w : World) (b n : Nat) (f : K → Option Nat) : Prop := Mp Try.prog 9 3 .i64 kl wk w b n (mf f)
theorem mf_upd (f : K → Option Nat) (k : K) (i : Nat) : mf (upd f k i) = upd (mf f) k ((i : Nat) : Int) := by
  funext x; unfold mf upd; split <;> rfl
theorem mf_del (f : K → Option Nat) (k : K) : mf (del f k) = del (mf f) k := by
  funext x; unfold mf del; split <;> rfl
theorem mf_some (f : K → Option Nat) (k : K) : (mf f k).isSome = (f k).isSome := by unfold mf; simp
theorem wf_nat {i : Nat} (h : i ≤ 1000000) : (Lit.int .i64 ((i : Nat) : Int)).wf = true := by
  simp [Lit.wf, IntKind.min, IntKind.max, IntKind.signed, IntKind.bits]; omega
/-- items in a block -/
structure Blk (w : World) (g cap : Nat) (l : List (K × Int)) : Prop where
  here : ∃ cur, w.heap[g]? = some (.cells cur 63 (0, 0)) ∧ cur.size = cap * 2 ∧ ∀ i, i < l.length → cur[i * 2]? = some (ek (el l i).1) ∧ cur[i * 2 + 1]? = some (er (el l i).2)
  fits : l.length ≤ cap
  cap : cap ≤ maxLen
theorem Blk.lt {w : World} {g cap : Nat} {l : List (K × Int)} (h : Blk w g cap l) : g < w.heap.size := by
  obtain ⟨cur, h1, _⟩ := h.here
  exact (Array.getElem?_eq_some_iff.1 h1).1
theorem Blk.kept {w Y : World} {g cap : Nat} {l : List (K × Int)} (h : Blk w g cap l) (e : Y.heap[g]? = w.heap[g]?) : Blk Y g cap l := by
  obtain ⟨cur, h1, h2⟩ := h.here
  exact ⟨⟨cur, e.trans h1, h2⟩, h.fits, h.cap⟩
theorem Blk.key {w : World} {g cap : Nat} {l : List (K × Int)} (h : Blk w g cap l) {i : Nat} (hi : i < l.length) : w.cell? ⟨g, i * 2, none⟩ = some (ek (el l i).1) := by
  obtain ⟨cur, h1, h2, h3⟩ := h.here
  rw [cell_of_row w g _ cur _ _ h1]
  exact (h3 i hi).1
theorem Blk.rank {w : World} {g cap : Nat} {l : List (K × Int)} (h : Blk w g cap l) {i : Nat} (hi : i < l.length) : w.cell? ⟨g, i * 2 + 1, none⟩ = some (er (el l i).2) := by
  obtain ⟨cur, h1, h2, h3⟩ := h.here
  rw [cell_of_row w g _ cur _ _ h1]
  exact (h3 i hi).2
theorem Blk.set {w : World} {g cap : Nat} {l : List (K × Int)} (h : Blk w g cap l) (i : Nat) (k : K) (r : Int) (hi : i < l.length) :
    Blk ((w.setCell ⟨g, i * 2, none⟩ (ek k)).setCell ⟨g, i * 2 + 1, none⟩ (er r)) g cap (l.set i (k, r)) := by
  obtain ⟨cur, h1, h2, h3⟩ := h.here
  have hc := h.fits
  refine ⟨⟨_, Lib.heap_setCell_same (Lib.heap_setCell_same h1 _) _, by simpa using h2, fun j hj => ?_⟩, by simpa using h.fits, h.cap⟩
  rw [List.length_set] at hj
  obtain ⟨g1, g2⟩ := h3 j hj
  by_cases e : j = i
  · subst e
    rw [el_set _ _ hi]
    constructor
    · rw [Array.getElem?_setIfInBounds_ne (by omega), Array.getElem?_setIfInBounds_self_of_lt (by omega)]
    · rw [Array.getElem?_setIfInBounds_self_of_lt (by simp; omega)]
  · rw [el_set_ne _ _ (fun e2 => e e2.symm)]
    constructor
    · rw [Array.getElem?_setIfInBounds_ne (by omega), Array.getElem?_setIfInBounds_ne (by omega)]; exact g1
    · rw [Array.getElem?_setIfInBounds_ne (by omega), Array.getElem?_setIfInBounds_ne (by omega)]; exact g2
theorem Blk.setR {w : World} {g cap : Nat} {l : List (K × Int)} (h : Blk w g cap l) (i : Nat) (r : Int) (hi : i < l.length) :
    Blk (w.setCell ⟨g, i * 2 + 1, none⟩ (er r)) g cap (l.set i ((el l i).1, r)) := by
  obtain ⟨cur, h1, h2, h3⟩ := h.here
  have hc := h.fits
  refine ⟨⟨_, Lib.heap_setCell_same h1 _, by simpa using h2, fun j hj => ?_⟩, by simpa using h.fits, h.cap⟩
  rw [List.length_set] at hj
  obtain ⟨g1, g2⟩ := h3 j hj
  by_cases e : j = i
  · subst e
    rw [el_set _ _ hi]
    constructor
    · rw [Array.getElem?_setIfInBounds_ne (by omega)]; exact g1
    · rw [Array.getElem?_setIfInBounds_self_of_lt (by omega)]
  · rw [el_set_ne _ _ (fun e2 => e e2.symm)]
    constructor
    · rw [Array.getElem?_setIfInBounds_ne (by omega)]; exact g1
    · rw [Array.getElem?_setIfInBounds_ne (by omega)]; exact g2
theorem Blk.take {w : World} {g cap : Nat} {l : List (K × Int)} (h : Blk w g cap l) (n : Nat) : Blk w g cap (l.take n) := by
  obtain ⟨cur, h1, h2, h3⟩ := h.here
  refine ⟨⟨cur, h1, h2, fun i hi => ?_⟩, by have := h.fits; simp; omega, h.cap⟩
  rw [List.length_take] at hi
  rw [el_take _ (by omega)]
  exact h3 i (by omega)
/-- cells beyond those that are told may be anything -/
theorem Blk.far {w : World} {g cap : Nat} {l : List (K × Int)} (h : Blk w g cap l) (j : Nat) (v : Value) (hj : l.length * 2 ≤ j) : Blk (w.setCell ⟨g, j, none⟩ v) g cap l := by
  obtain ⟨cur, h1, h2, h3⟩ := h.here
  refine ⟨⟨_, Lib.heap_setCell_same h1 _, by simpa using h2, fun i hi => ?_⟩, h.fits, h.cap⟩
  obtain ⟨g1, g2⟩ := h3 i hi
  exact ⟨by rw [Array.getElem?_setIfInBounds_ne (by omega)]; exact g1, by rw [Array.getElem?_setIfInBounds_ne (by omega)]; exact g2⟩
/-- a row of items -/
def Row (w : World) (v : Value) (l : List (K × Int)) : Prop :=
  (l = [] ∧ ∃ p, v = .slice p 0 0) ∨ ∃ g cap, v = .slice (some ⟨g, 0, none⟩) l.length cap ∧ Blk w g cap l
/-- the block that a value leads to, if it may be written -/
def blk : Value → Option Nat
  | .slice (some a) _ (_ + 1) => some a.block
  | .map b => b
  | _ => none
theorem Row.kept {w Y : World} {v : Value} {l : List (K × Int)} (h : Row w v l) (e : ∀ b, blk v = some b → Y.heap[b]? = w.heap[b]?) : Row Y v l := by
  rcases h with h | ⟨g, cap, rfl, hb⟩
  · exact .inl h
  · by_cases hc : cap = 0
    · subst hc
      have := hb.fits
      have hl : l = [] := List.eq_nil_of_length_eq_zero (by omega)
      subst hl
      exact .inl ⟨rfl, _, rfl⟩
    · refine .inr ⟨g, cap, rfl, hb.kept (e g ?_)⟩
      obtain ⟨c, rfl⟩ : ∃ c, cap = c + 1 := ⟨cap - 1, by omega⟩
      rfl
/-- a heap's cells: its items, its places; all blocks of S its own -/
structure Hq (S : Nat → Prop) (w : World) (hb : Nat) (iv mv : Value) (l : List (K × Int)) (f : K → Option Nat) : Prop where
  obj : w.heap[hb]? = some (.cells #[iv, mv] 76 (0, 0))
  row : Row w iv l
  map : (mv = .map none ∧ l = []) ∨ ∃ b, mv = .map (some b) ∧ Mq w b l.length f
  pl : Pl f l
  keys : ∀ x ∈ l, wk x.1
  own : S hb
  ownI : ∀ b, blk iv = some b → S b
  ownM : ∀ b, blk mv = some b → S b
  size : ∀ k, S k → k < w.heap.size
theorem Hq.kept {S : Nat → Prop} {w Y : World} {hb : Nat} {iv mv : Value} {l : List (K × Int)} {f : K → Option Nat} (h : Hq S w hb iv mv l f) (hs : w.heap.size ≤ Y.heap.size) (e : ∀ k, S k → Y.heap[k]? = w.heap[k]?) : Hq S Y hb iv mv l f where
  obj := (e hb h.own).trans h.obj
  row := h.row.kept fun b hbk => e b (h.ownI b hbk)
  map := by
    rcases h.map with h1 | ⟨b, rfl, h1⟩
    · exact .inl h1
    · exact .inr ⟨b, rfl, h1.kept (e b (h.ownM b rfl))⟩
  pl := h.pl
  keys := h.keys
  own := h.own
  ownI := h.ownI
  ownM := h.ownM
  size k hk := by have := h.size k hk; omega
theorem Hq.fr {S S' : Nat → Prop} {w Y : World} {hb : Nat} {iv mv : Value} {l : List (K × Int)} {f : K → Option Nat} (h : Hq S w hb iv mv l f) (e : Fr S' w Y) (hd : ∀ k, S k → ¬ S' k) : Hq S Y hb iv mv l f :=
  h.kept e.size fun k hk => e.block k (h.size k hk) (hd k hk)
theorem Hq.items {S : Nat → Prop} {w : World} {hb : Nat} {iv mv : Value} {l : List (K × Int)} {f : K → Option Nat} (h : Hq S w hb iv mv l f) : w.cell? ⟨hb, 0, none⟩ = some iv := by rw [cell_of_row w hb 0 _ _ _ h.obj]; rfl
theorem Hq.places {S : Nat → Prop} {w : World} {hb : Nat} {iv mv : Value} {l : List (K × Int)} {f : K → Option Nat} (h : Hq S w hb iv mv l f) : w.cell? ⟨hb, 1, none⟩ = some mv := by rw [cell_of_row w hb 1 _ _ _ h.obj]; rfl
theorem Hq.at {S : Nat → Prop} {w : World} {hb : Nat} {iv mv : Value} {l : List (K × Int)} {f : K → Option Nat} (h : Hq S w hb iv mv l f) (hl : 0 < l.length) :
    ∃ g cap b, iv = .slice (some ⟨g, 0, none⟩) l.length cap ∧ Blk w g cap l ∧ mv = .map (some b) ∧ Mq w b l.length f ∧ S g ∧ S b ∧ g ≠ hb ∧ b ≠ hb ∧ g ≠ b := by
  rcases h.row with ⟨rfl, _⟩ | ⟨g, cap, rfl, hB⟩
  · simp at hl
  rcases h.map with ⟨_, rfl⟩ | ⟨b, rfl, hM⟩
  · simp at hl
  obtain ⟨cur, c1, c2, _⟩ := hB.here
  obtain ⟨es, clock, hm⟩ := hM.at
  have ho := h.obj
  have hc := hB.fits
  obtain ⟨c, rfl⟩ : ∃ c, cap = c + 1 := ⟨cap - 1, by omega⟩
  refine ⟨g, _, b, rfl, hB, rfl, hM, h.ownI g rfl, h.ownM b rfl, ?_, ?_, ?_⟩
  · rintro rfl; rw [ho] at c1; cases c1
  · rintro rfl; rw [ho] at hm; cases hm
  · rintro rfl; rw [c1] at hm; cases hm
/-- the slice's shape -/
theorem Hq.shape {S : Nat → Prop} {w : World} {hb : Nat} {iv mv : Value} {l : List (K × Int)} {f : K → Option Nat} (h : Hq S w hb iv mv l f) : ∃ a cap, iv = .slice a l.length cap ∧ l.length ≤ cap := by
  rcases h.row with ⟨rfl, p, rfl⟩ | ⟨g, cap, rfl, hB⟩
  · exact ⟨p, 0, rfl, Nat.le_refl _⟩
  · exact ⟨_, cap, rfl, hB.fits⟩
end Go.Proofs.Ytomkefaakgodhaa.HpE
