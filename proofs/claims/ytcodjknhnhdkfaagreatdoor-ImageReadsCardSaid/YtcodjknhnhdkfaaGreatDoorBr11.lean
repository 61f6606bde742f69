/- heaps of string and uint64: how they lie -/
import Derived.Test.YtcodjknhnhdkfaaGreatDoorBr07
import Derived.Test.YtcodjknhnhdkfaaGreatDoorBrHs
import Derived.Sort.Grow
import Derived.Shelf.Abstract
import Derived.Lib.Hide
import Derived.Lib.BufferOwn
import Derived.Test.YtcodjknhnhdkfaaGreatDoorAo
namespace Go.Proofs.YtcodjknhnhdkfaaGreatDoor.HpE
open Go.RowKit Go.Lib Go.Sort Hp
set_option linter.unusedVariables false

abbrev K := List UInt8
def ek (k : List UInt8) : Value := .string ⟨k.toArray⟩
def kl (k : List UInt8) : Lit := .string k
def wk (k : List UInt8) : Prop := k.length ≤ 1000
def er (r : Int) : Value := .int .u64 r
theorem key_of (k : List UInt8) (hk : wk k) : keyOf Tryz.prog 9 (ek k) = some (kl k) := Hp.keyOf_str Tryz.underlying9 (by unfold wk at hk; unfold maxLen; omega)
theorem kind : Kind Tryz.prog 101 9 3 .i64 ek kl wk where
  map := Tryz.underlying101
  elem := Tryz.underlying3
  zero w := by go_simp
  keyed := Maps.string_keyed Tryz.underlying9
  key := key_of
  inj k k' h := by simpa [kl] using h
/-- where each key's item stands, as the map tells it -/
def mf (f : K → Option Nat) : K → Option Int := fun k => (f k).map fun i => ((i : Nat) : Int)
abbrev Mq (w : World) (b n : Nat) (f : K → Option Nat) : Prop := Mp Tryz.prog 9 3 .i64 kl wk w b n (mf f)
theorem mf_upd (f : K → Option Nat) (k : K) (i : Nat) : mf (upd f k i) = upd (mf f) k ((i : Nat) : Int) := by
  funext x; unfold mf upd; split <;> rfl
theorem mf_del (f : K → Option Nat) (k : K) : mf (del f k) = del (mf f) k := by
  funext x; unfold mf del; split <;> rfl
theorem mf_some (f : K → Option Nat) (k : K) : (mf f k).isSome = (f k).isSome := by unfold mf; simp
theorem wf_nat {i : Nat} (h : i ≤ 1000000) : (Lit.int .i64 ((i : Nat) : Int)).wf = true := by
  simp [Lit.wf, IntKind.min, IntKind.max, IntKind.signed, IntKind.bits]; omega
/-- items in a block -/
structure Blk (w : World) (g cap : Nat) (l : List (K × Int)) : Prop where
  here : ∃ cur, w.heap[g]? = some (.cells cur 176 (0, 0)) ∧ cur.size = cap * 2 ∧ ∀ i, i < l.length → cur[i * 2]? = some (ek (el l i).1) ∧ cur[i * 2 + 1]? = some (er (el l i).2)
  fits : l.length ≤ cap
  cap : cap ≤ maxLen
theorem Blk.lt {w : World} {g cap : Nat} {l : List (K × Int)} (h : Blk w g cap l) : g < w.heap.size := by
  obtain ⟨cur, h1, _⟩ := h.here
  exact (Array.getElem?_eq_some_iff.1 h1).1
theorem Blk.kept {w Y : World} {g cap : Nat} {l : List (K × Int)} (h : Blk w g cap l) (e : Y.heap[g]? = w.heap[g]?) : Blk Y g cap l := by
  obtain ⟨cur, h1, h2⟩ := h.here
  exact ⟨⟨cur, e.trans h1, h2⟩, h.fits, h.cap⟩
theorem Blk.key {w : World} {g cap : Nat} {l : List (K × Int)} (h : Blk w g cap l) {i : Nat} (hi : i < l.length) : w.cell? ⟨g, i * 2, none⟩ = some (ek (el l i).1) := by
  obtain ⟨cur, h1, h2, h3⟩ := h.here
  rw [cell_of_row w g _ cur _ _ h1]
  exact (h3 i hi).1
theorem Blk.rank {w : World} {g cap : Nat} {l : List (K × Int)} (h : Blk w g cap l) {i : Nat} (hi : i < l.length) : w.cell? ⟨g, i * 2 + 1, none⟩ = some (er (el l i).2) := by
  obtain ⟨cur, h1, h2, h3⟩ := h.here
  rw [cell_of_row w g _ cur _ _ h1]
  exact (h3 i hi).2
theorem Blk.set {w : World} {g cap : Nat} {l : List (K × Int)} (h : Blk w g cap l) (i : Nat) (k : K) (r : Int) (hi : i < l.length) :
    Blk ((w.setCell ⟨g, i * 2, none⟩ (ek k)).setCell ⟨g, i * 2 + 1, none⟩ (er r)) g cap (l.set i (k, r)) := by
  obtain ⟨cur, h1, h2, h3⟩ := h.here
  have hc := h.fits
  refine ⟨⟨_, Lib.heap_setCell_same (Lib.heap_setCell_same h1 _) _, by simpa using h2, fun j hj => ?_⟩, by simpa using h.fits, h.cap⟩
  rw [List.length_set] at hj
  obtain ⟨g1, g2⟩ := h3 j hj
  by_cases e : j = i
  · subst e
    rw [el_set _ _ hi]
    constructor
    · rw [Array.getElem?_setIfInBounds_ne (by omega), Array.getElem?_setIfInBounds_self_of_lt (by omega)]
    · rw [Array.getElem?_setIfInBounds_self_of_lt (by simp; omega)]
  · rw [el_set_ne _ _ (fun e2 => e e2.symm)]
    constructor
    · rw [Array.getElem?_setIfInBounds_ne (by omega), Array.getElem?_setIfInBounds_ne (by omega)]; exact g1
    · rw [Array.getElem?_setIfInBounds_ne (by omega), Array.getElem?_setIfInBounds_ne (by omega)]; exact g2
theorem Blk.setR {w : World} {g cap : Nat} {l : List (K × Int)} (h : Blk w g cap l) (i : Nat) (r : Int) (hi : i < l.length) :
    Blk (w.setCell ⟨g, i * 2 + 1, none⟩ (er r)) g cap (l.set i ((el l i).1, r)) := by
  obtain ⟨cur, h1, h2, h3⟩ := h.here
  have hc := h.fits
  refine ⟨⟨_, Lib.heap_setCell_same h1 _, by simpa using h2, fun j hj => ?_⟩, by simpa using h.fits, h.cap⟩
  rw [List.length_set] at hj
  obtain ⟨g1, g2⟩ := h3 j hj
  by_cases e : j = i
  · subst e
    rw [el_set _ _ hi]
    constructor
    · rw [Array.getElem?_setIfInBounds_ne (by omega)]; exact g1
    · rw [Array.getElem?_setIfInBounds_self_of_lt (by omega)]
  · rw [el_set_ne _ _ (fun e2 => e e2.symm)]
    constructor
    · rw [Array.getElem?_setIfInBounds_ne (by omega)]; exact g1
    · rw [Array.getElem?_setIfInBounds_ne (by omega)]; exact g2
theorem Blk.take {w : World} {g cap : Nat} {l : List (K × Int)} (h : Blk w g cap l) (n : Nat) : Blk w g cap (l.take n) := by
  obtain ⟨cur, h1, h2, h3⟩ := h.here
  refine ⟨⟨cur, h1, h2, fun i hi => ?_⟩, by have := h.fits; simp; omega, h.cap⟩
  rw [List.length_take] at hi
  rw [el_take _ (by omega)]
  exact h3 i (by omega)
/-- cells beyond those that are told may be anything -/
theorem Blk.far {w : World} {g cap : Nat} {l : List (K × Int)} (h : Blk w g cap l) (j : Nat) (v : Value) (hj : l.length * 2 ≤ j) : Blk (w.setCell ⟨g, j, none⟩ v) g cap l := by
  obtain ⟨cur, h1, h2, h3⟩ := h.here
  refine ⟨⟨_, Lib.heap_setCell_same h1 _, by simpa using h2, fun i hi => ?_⟩, h.fits, h.cap⟩
  obtain ⟨g1, g2⟩ := h3 i hi
  exact ⟨by rw [Array.getElem?_setIfInBounds_ne (by omega)]; exact g1, by rw [Array.getElem?_setIfInBounds_ne (by omega)]; exact g2⟩
/-- a row of items -/
def Row (w : World) (v : Value) (l : List (K × Int)) : Prop :=
  (l = [] ∧ ∃ p, v = .slice p 0 0) ∨ ∃ g cap, v = .slice (some ⟨g, 0, none⟩) l.length cap ∧ Blk w g cap l
/-- the block that a value leads to, if it may be written -/
def blk : Value → Option Nat
  | .slice (some a) _ (_ + 1) => some a.block
  | .map b => b
  | _ => none
theorem Row.kept {w Y : World} {v : Value} {l : List (K × Int)} (h : Row w v l) (e : ∀ b, blk v = some b → Y.heap[b]? = w.heap[b]?) : Row Y v l := by
  rcases h with h | ⟨g, cap, rfl, hb⟩
  · exact .inl h
  · by_cases hc : cap = 0
    · subst hc
      have := hb.fits
      have hl : l = [] := List.eq_nil_of_length_eq_zero (by omega)
      subst hl
      exact .inl ⟨rfl, _, rfl⟩
    · refine .inr ⟨g, cap, rfl, hb.kept (e g ?_)⟩
      obtain ⟨c, rfl⟩ : ∃ c, cap = c + 1 := ⟨cap - 1, by omega⟩
      rfl
/-- a heap's cells: its items, its places; all blocks of S its own -/
structure Hq (S : Nat → Prop) (w : World) (hb : Nat) (iv mv : Value) (l : List (K × Int)) (f : K → Option Nat) : Prop where
  obj : w.heap[hb]? = some (.cells #[iv, mv] 173 (0, 0))
  row : Row w iv l
  map : (mv = .map none ∧ l = []) ∨ ∃ b, mv = .map (some b) ∧ Mq w b l.length f
  pl : Pl f l
  keys : ∀ x ∈ l, wk x.1
  own : S hb
  ownI : ∀ b, blk iv = some b → S b
  ownM : ∀ b, blk mv = some b → S b
  size : ∀ k, S k → k < w.heap.size
theorem Hq.kept {S : Nat → Prop} {w Y : World} {hb : Nat} {iv mv : Value} {l : List (K × Int)} {f : K → Option Nat} (h : Hq S w hb iv mv l f) (hs : w.heap.size ≤ Y.heap.size) (e : ∀ k, S k → Y.heap[k]? = w.heap[k]?) : Hq S Y hb iv mv l f where
  obj := (e hb h.own).trans h.obj
  row := h.row.kept fun b hbk => e b (h.ownI b hbk)
  map := by
    rcases h.map with h1 | ⟨b, rfl, h1⟩
    · exact .inl h1
    · exact .inr ⟨b, rfl, h1.kept (e b (h.ownM b rfl))⟩
  pl := h.pl
  keys := h.keys
  own := h.own
  ownI := h.ownI
  ownM := h.ownM
  size k hk := by have := h.size k hk; omega
theorem Hq.fr {S S' : Nat → Prop} {w Y : World} {hb : Nat} {iv mv : Value} {l : List (K × Int)} {f : K → Option Nat} (h : Hq S w hb iv mv l f) (e : Fr S' w Y) (hd : ∀ k, S k → ¬ S' k) : Hq S Y hb iv mv l f :=
  h.kept e.size fun k hk => e.block k (h.size k hk) (hd k hk)
theorem Hq.items {S : Nat → Prop} {w : World} {hb : Nat} {iv mv : Value} {l : List (K × Int)} {f : K → Option Nat} (h : Hq S w hb iv mv l f) : w.cell? ⟨hb, 0, none⟩ = some iv := by rw [cell_of_row w hb 0 _ _ _ h.obj]; rfl
theorem Hq.places {S : Nat → Prop} {w : World} {hb : Nat} {iv mv : Value} {l : List (K × Int)} {f : K → Option Nat} (h : Hq S w hb iv mv l f) : w.cell? ⟨hb, 1, none⟩ = some mv := by rw [cell_of_row w hb 1 _ _ _ h.obj]; rfl
theorem Hq.at {S : Nat → Prop} {w : World} {hb : Nat} {iv mv : Value} {l : List (K × Int)} {f : K → Option Nat} (h : Hq S w hb iv mv l f) (hl : 0 < l.length) :
    ∃ g cap b, iv = .slice (some ⟨g, 0, none⟩) l.length cap ∧ Blk w g cap l ∧ mv = .map (some b) ∧ Mq w b l.length f ∧ S g ∧ S b ∧ g ≠ hb ∧ b ≠ hb ∧ g ≠ b := by
  rcases h.row with ⟨rfl, _⟩ | ⟨g, cap, rfl, hB⟩
  · simp at hl
  rcases h.map with ⟨_, rfl⟩ | ⟨b, rfl, hM⟩
  · simp at hl
  obtain ⟨cur, c1, c2, _⟩ := hB.here
  obtain ⟨es, clock, hm⟩ := hM.at
  have ho := h.obj
  have hc := hB.fits
  obtain ⟨c, rfl⟩ : ∃ c, cap = c + 1 := ⟨cap - 1, by omega⟩
  refine ⟨g, _, b, rfl, hB, rfl, hM, h.ownI g rfl, h.ownM b rfl, ?_, ?_, ?_⟩
  · rintro rfl; rw [ho] at c1; cases c1
  · rintro rfl; rw [ho] at hm; cases hm
  · rintro rfl; rw [c1] at hm; cases hm
/-- the slice's shape -/
theorem Hq.shape {S : Nat → Prop} {w : World} {hb : Nat} {iv mv : Value} {l : List (K × Int)} {f : K → Option Nat} (h : Hq S w hb iv mv l f) : ∃ a cap, iv = .slice a l.length cap ∧ l.length ≤ cap := by
  rcases h.row with ⟨rfl, p, rfl⟩ | ⟨g, cap, rfl, hB⟩
  · exact ⟨p, 0, rfl, Nat.le_refl _⟩
  · exact ⟨_, cap, rfl, hB.fits⟩
end Go.Proofs.YtcodjknhnhdkfaaGreatDoor.HpE
namespace Go.Proofs.YtcodjknhnhdkfaaGreatDoor.HpE
open Go.RowKit Go.Lib Go.Sort Hp
set_option linter.unusedVariables false

/-- less, equal, greater -/
def cm {V : Type} [LT V] [DecidableLT V] (x y : V) : Int := if x < y then -1 else if y < x then 1 else 0

theorem nanK_any (x : List UInt8) (w : World) : Calls Tryz.prog 139 #[ek x] w fun e w' => e = .returned (.bool false) ∧ w' = w := by
  unfold ek
  go_enter Tryz.func139, Tryz.ntmps139
  go_wp2
  go_ret
  exact ⟨by simp, rfl⟩
theorem cmpK_any (x y : List UInt8) (w : World) : Calls Tryz.prog 158 #[ek x, ek y] w fun e w' => e = .returned (.int .i64 (cm x y)) ∧ w' = w := by
  have h1 := nanK_any x w
  have h2 := nanK_any y w
  have e1 : Op.bytesLess x y = decide (x < y) := bytesLess_eq x y
  have hgt : ∀ W, (binOp .gtr 9 (.string ⟨x.toArray⟩) (.string ⟨y.toArray⟩)).run Tryz.prog W = .ok (.bool (decide (y < x))) W := gtr_str x y
  unfold ek at *
  go_enter Tryz.func158, Tryz.ntmps158
  go_wp2_with fail
  refine h1.mono ?_
  rintro e w1 ⟨rfl, rfl⟩
  go_wp2_with fail
  refine h2.mono ?_
  rintro e w1 ⟨rfl, rfl⟩
  go_wp2_with fail
  all_goals
    go_ret
    refine ⟨?_, rfl⟩
    unfold cm
    first | (simp_all; done) | (simp_all [bytesLess_eq]; done) | (simp; rw [if_neg (by omega), if_neg (by omega)])

theorem nanR_any (x : Int) (w : World) : Calls Tryz.prog 164 #[er x] w fun e w' => e = .returned (.bool false) ∧ w' = w := by
  unfold er
  go_enter Tryz.func164, Tryz.ntmps164
  go_wp2
  go_ret
  exact ⟨by simp, rfl⟩
theorem cmpR_any (x y : Int) (w : World) : Calls Tryz.prog 157 #[er x, er y] w fun e w' => e = .returned (.int .i64 (cm x y)) ∧ w' = w := by
  have h1 := nanR_any x w
  have h2 := nanR_any y w
  unfold er at *
  go_enter Tryz.func157, Tryz.ntmps157
  go_wp2_with fail
  refine h1.mono ?_
  rintro e w1 ⟨rfl, rfl⟩
  go_wp2_with fail
  refine h2.mono ?_
  rintro e w1 ⟨rfl, rfl⟩
  go_wp2_with fail
  all_goals
    go_ret
    refine ⟨?_, rfl⟩
    unfold cm
    first | (simp_all; done) | fail | (simp; rw [if_neg (by omega), if_neg (by omega)])

theorem cfp_cm (x y : K × Int) : cfp x y = if cm x.2 y.2 = 0 then cm x.1 y.1 else cm x.2 y.2 := by
  unfold cfp cm
  by_cases h1 : x.2 < y.2
  · simp [h1]
  · by_cases h2 : y.2 < x.2
    · simp [h1, h2]
    · simp [h1, h2]
theorem compare_any (x y : K × Int) (w : World) : Calls Tryz.prog 148 #[.agg #[ek x.1, er x.2], .agg #[ek y.1, er y.2]] w fun e w' =>
    e = .returned (.int .i64 (cfp x y)) ∧ ∃ q os, w' = grow (w.drewN q) os := by
  have hR := fun W => cmpR_any x.2 y.2 W
  have hK := fun W => cmpK_any x.1 y.1 W
  rw [cfp_cm]
  generalize ek x.1 = kx at *
  generalize ek y.1 = ky at *
  generalize er x.2 = rx at *
  generalize er y.2 = ry at *
  generalize cm x.1 y.1 = ck at *
  generalize cm x.2 y.2 = cr at *
  go_enter Tryz.func148, Tryz.ntmps148
  go_wp2_with fail
  refine (hR _).mono ?_
  rintro e w1 ⟨rfl, rfl⟩
  by_cases h0 : cr = 0
  · subst h0
    go_wp2_with fail
    refine (hK _).mono ?_
    rintro e w1 ⟨rfl, rfl⟩
    go_wp2_with fail
    go_ret
    exact ⟨by simp, 0, _, by rw [alloc_eq_grow, alloc_eq_grow, grow_grow]; rfl⟩
  · go_wp2_with fail
    go_ret
    exact ⟨by simp, 0, _, by rw [alloc_eq_grow, alloc_eq_grow, grow_grow]; rfl⟩
theorem grow_below (w : World) (os : Array Obj) (q : Nat) : Below w.heap.size w (grow (w.drewN q) os) :=
  ⟨rfl, rfl, rfl, by simp [grow, World.drewN], fun k hk => by simp [grow, World.drewN, Array.getElem?_append, hk]⟩
theorem above_any (i : Nat) (w : World) (hi : 0 < i) (hi2 : i ≤ 1000000) : Calls Tryz.prog 129 #[.int .i64 ((i : Nat) : Int)] w fun e w' => e = .returned (.int .i64 ((par i : Nat) : Int)) ∧ w' = w := by
  have h1 : IntKind.i64.wrap (((i : Nat) : Int) - 1) = ((i - 1 : Nat) : Int) := by rw [IntWalk.i64_in] <;> omega
  have h3 : wrap64 ((par i : Nat) : Int) = ((par i : Nat) : Int) := by have : par i ≤ 1000000 := by { unfold par; omega }
                                                                       unfold wrap64; omega
  have h2 : (((i - 1 : Nat) : Int)).tdiv 2 = ((par i : Nat) : Int) := by unfold par; rw [Int.tdiv_eq_ediv_of_nonneg (by omega)]; omega
  generalize ((i : Nat) : Int) = I at *
  generalize ((par i : Nat) : Int) = R at *
  generalize ((i - 1 : Nat) : Int) = I1 at *
  go_enter Tryz.func129, Tryz.ntmps129
  go_wp2_with fail
  go_ret
  exact ⟨by simp_all, rfl⟩
section
variable {S : Nat → Prop} {w : World} {hb : Nat} {iv mv : Value} {l : List (K × Int)} {f : K → Option Nat}
theorem place_any (h : Hq S w hb iv mv l f) {k : K} (hk : wk k) : Calls Tryz.prog 105 #[.pointer (some ⟨hb, 0, none⟩), ek k] w fun e w' =>
    e = .returned (.tuple #[.int .i64 (((f k).getD 0 : Nat) : Int), .bool (f k).isSome]) ∧ w' = w := by
  have hp := h.places
  have hl : (Instr.lookup 101 mv (ek k) true).run Tryz.prog w = .ok (.tuple #[.int .i64 (((f k).getD 0 : Nat) : Int), .bool (f k).isSome]) w := by
    rcases h.map with ⟨rfl, rfl⟩ | ⟨b, rfl, hM⟩
    · have hn : f k = none := by
        cases e : f k with
        | none => rfl
        | some i => have := ((h.pl k i).1 e).1; simp at this
      rw [hn]
      exact look_nil kind w hk
    · have := hM.look kind rfl hk
      rw [mf_some] at this
      rw [this]
      unfold mf
      cases f k <;> rfl
  clear h
  generalize ek k = kv at *
  generalize (f k).getD 0 = m at *
  generalize (f k).isSome = b at *
  go_enter Tryz.func105, Tryz.ntmps105
  go_wp2_with fail
  refine bodyPost_ret (results_tmp2 rfl _ _ _) rfl ?_
  exact ⟨by simp, rfl⟩
end
theorem new_any (w : World) : Calls Tryz.prog 89 #[] w fun e w' => e = .returned (.pointer (some ⟨w.heap.size, 0, none⟩)) ∧ Hq (fun k => k = w.heap.size) w' w.heap.size (.slice none 0 0) (.map none) [] (fun _ => none) ∧ Below w.heap.size w w' := by
  go_enter Tryz.func89, Tryz.ntmps89
  go_wp2_with fail
  go_ret
  refine ⟨by simp, ⟨?_, .inl ⟨rfl, none, rfl⟩, .inl ⟨rfl, rfl⟩, fun k i => ?_, by simp, rfl, fun b e => (by cases e), fun b e => (by cases e), fun k hk => (by simp [hk])⟩, (Below.refl _ w).alloc (Nat.le_refl _) _⟩
  · exact (MapKept.heap_alloc w _).1
  · simp
end Go.Proofs.YtcodjknhnhdkfaaGreatDoor.HpE
namespace Go.Proofs.YtcodjknhnhdkfaaGreatDoor.HpE
open Go.RowKit Go.Lib Go.Sort Hp Ht
set_option linter.unusedVariables false
set_option maxRecDepth 20000
section
variable {S : Nat → Prop} {w : World} {hb : Nat} {iv mv : Value} {l : List (K × Int)} {f : K → Option Nat}
theorem ahead_any (h : Hq S w hb iv mv l f) {i j : Nat} (hi : i < l.length) (hj : j < l.length) (hn : l.length ≤ 1000000) :
    Calls Tryz.prog 128 #[.pointer (some ⟨hb, 0, none⟩), .int .i64 ((i : Nat) : Int), .int .i64 ((j : Nat) : Int)] w fun e w' => e = .returned (.bool (ltp (el l i) (el l j))) ∧ Below w.heap.size w w' := by
  have hc := fun W => compare_any (el l i) (el l j) W
  have hI := h.items
  obtain ⟨g, cap, b, rfl, hB, rfl, hM, hSg, hSb, hgb, hbb, hgm⟩ := h.at (by omega)
  have k1 := hB.key hi
  have r1 := hB.rank hi
  have k2 := hB.key hj
  have r2 := hB.rank hj
  clear hM hB h hSg hSb hgb hbb hgm
  rw [← cfp_neg]
  generalize cfp (el l i) (el l j) = c at *
  generalize ek (el l i).1 = x1 at *
  generalize er (el l i).2 = x2 at *
  generalize ek (el l j).1 = y1 at *
  generalize er (el l j).2 = y2 at *
  generalize l.length = n at *
  have hix : ((i : Nat) : Int) < ((n : Nat) : Int) := by omega
  have hjx : ((j : Nat) : Int) < ((n : Nat) : Int) := by omega
  have hmix : Tryz.prog.follows .mixedOrders = true := by kernel_rfl
  have HC := Lib.hid hc
  clear hc
  go_enter Tryz.func128, Tryz.ntmps128
  go_wp2_with fail
  refine begin' 99 (fun _ => True) hmix trivial (fun _ => ?_)
  refine later [14, 15, 16] (fun X => X.cell? ⟨hb, 0, none⟩ = some (.slice (some ⟨g, 0, none⟩) n cap) ∧ X.cell? ⟨g, i * 2, none⟩ = some x1 ∧ X.cell? ⟨g, i * 2 + 1, none⟩ = some x2 ∧ X.cell? ⟨g, j * 2, none⟩ = some y1 ∧ X.cell? ⟨g, j * 2 + 1, none⟩ = some y2) (⟨hI, k1, r1, k2, r2⟩) (fun hS0 => ?_)
  refine Ht.takeS 10 (i := 0) ⟨some 7, _, _, _, _, _⟩ (.pointer (some ⟨hb, 0, none⟩)) rfl (by kernel_rfl) (by kernel_rfl) (by kernel_rfl) (by kernel_rfl) (by kernel_rfl) hS0 (Or.inl ⟨by rfl, by (intro X hX; go_simp)⟩) ?_
  simp only [Act.put, List.setIfInBounds_toArray, List.set_cons_zero, List.set_cons_succ]
  refine Ht.takeS 10 (i := 1) ⟨some 8, _, _, _, _, _⟩ (.pointer (some ⟨hb, 0, none⟩)) rfl (by kernel_rfl) (by kernel_rfl) (by kernel_rfl) (by kernel_rfl) (by kernel_rfl) hS0 (Or.inl ⟨by rfl, by (intro X hX; go_simp)⟩) ?_
  simp only [Act.put, List.setIfInBounds_toArray, List.set_cons_zero, List.set_cons_succ]
  refine Ht.takeS 10 (i := 2) ⟨some 9, _, _, _, _, _⟩ (.pointer (some ⟨hb, 0, none⟩)) rfl (by kernel_rfl) (by kernel_rfl) (by kernel_rfl) (by kernel_rfl) (by kernel_rfl) hS0 (Or.inl ⟨by rfl, by (intro X hX; go_simp)⟩) ?_
  simp only [Act.put, List.setIfInBounds_toArray, List.set_cons_zero, List.set_cons_succ]
  refine Ht.takeS 10 (i := 3) ⟨some 10, _, _, _, _, _⟩ (.slice (some ⟨g, 0, none⟩) n cap) rfl (by kernel_rfl) (by kernel_rfl) (by kernel_rfl) (by kernel_rfl) (by kernel_rfl) hS0 (Or.inl ⟨by rfl, by (intro X hX; have := hX.1; go_simp)⟩) ?_
  simp only [Act.put, List.setIfInBounds_toArray, List.set_cons_zero, List.set_cons_succ]
  refine Ht.takeS 10 (i := 4) ⟨some 11, _, _, _, _, _⟩ (.int .i64 ((i : Nat) : Int)) rfl (by kernel_rfl) (by kernel_rfl) (by kernel_rfl) (by kernel_rfl) (by kernel_rfl) hS0 (Or.inl ⟨by rfl, by (intro X hX; go_simp)⟩) ?_
  simp only [Act.put, List.setIfInBounds_toArray, List.set_cons_zero, List.set_cons_succ]
  refine Ht.takeS 10 (i := 5) ⟨some 12, _, _, _, _, _⟩ (.pointer (some ⟨g, i * 2, none⟩)) rfl (by kernel_rfl) (by kernel_rfl) (by kernel_rfl) (by kernel_rfl) (by kernel_rfl) hS0 (Or.inl ⟨by rfl, by (intro X hX; go_simp)⟩) ?_
  simp only [Act.put, List.setIfInBounds_toArray, List.set_cons_zero, List.set_cons_succ]
  refine Ht.takeS 10 (i := 6) ⟨some 13, _, _, _, _, _⟩ (.agg #[x1, x2]) rfl (by kernel_rfl) (by kernel_rfl) (by kernel_rfl) (by kernel_rfl) (by kernel_rfl) hS0 (Or.inl ⟨by rfl, by (intro X hX; have := And.intro hX.2.1 hX.2.2.1; go_simp)⟩) ?_
  simp only [Act.put, List.setIfInBounds_toArray, List.set_cons_zero, List.set_cons_succ]
  refine Ht.takeS 10 (i := 7) ⟨some 14, _, _, _, _, _⟩ (.pointer (some ⟨hb, 0, none⟩)) rfl (by kernel_rfl) (by kernel_rfl) (by kernel_rfl) (by kernel_rfl) (by kernel_rfl) hS0 (Or.inl ⟨by rfl, by (intro X hX; go_simp)⟩) ?_
  simp only [Act.put, List.setIfInBounds_toArray, List.set_cons_zero, List.set_cons_succ]
  refine Ht.takeS 10 (i := 8) ⟨some 15, _, _, _, _, _⟩ (.pointer (some ⟨hb, 0, none⟩)) rfl (by kernel_rfl) (by kernel_rfl) (by kernel_rfl) (by kernel_rfl) (by kernel_rfl) hS0 (Or.inl ⟨by rfl, by (intro X hX; go_simp)⟩) ?_
  simp only [Act.put, List.setIfInBounds_toArray, List.set_cons_zero, List.set_cons_succ]
  refine Ht.takeS 10 (i := 9) ⟨some 16, _, _, _, _, _⟩ (.pointer (some ⟨hb, 0, none⟩)) rfl (by kernel_rfl) (by kernel_rfl) (by kernel_rfl) (by kernel_rfl) (by kernel_rfl) hS0 (Or.inl ⟨by rfl, by (intro X hX; go_simp)⟩) ?_
  simp only [Act.put, List.setIfInBounds_toArray, List.set_cons_zero, List.set_cons_succ]
  refine Ht.takeS 10 (i := 10) ⟨some 17, _, _, _, _, _⟩ (.slice (some ⟨g, 0, none⟩) n cap) rfl (by kernel_rfl) (by kernel_rfl) (by kernel_rfl) (by kernel_rfl) (by kernel_rfl) hS0 (Or.inl ⟨by rfl, by (intro X hX; have := hX.1; go_simp)⟩) ?_
  simp only [Act.put, List.setIfInBounds_toArray, List.set_cons_zero, List.set_cons_succ]
  refine Ht.takeS 10 (i := 11) ⟨some 18, _, _, _, _, _⟩ (.int .i64 ((j : Nat) : Int)) rfl (by kernel_rfl) (by kernel_rfl) (by kernel_rfl) (by kernel_rfl) (by kernel_rfl) hS0 (Or.inl ⟨by rfl, by (intro X hX; go_simp)⟩) ?_
  simp only [Act.put, List.setIfInBounds_toArray, List.set_cons_zero, List.set_cons_succ]
  refine Ht.takeS 10 (i := 12) ⟨some 19, _, _, _, _, _⟩ (.pointer (some ⟨g, j * 2, none⟩)) rfl (by kernel_rfl) (by kernel_rfl) (by kernel_rfl) (by kernel_rfl) (by kernel_rfl) hS0 (Or.inl ⟨by rfl, by (intro X hX; go_simp)⟩) ?_
  simp only [Act.put, List.setIfInBounds_toArray, List.set_cons_zero, List.set_cons_succ]
  refine Ht.takeS 10 (i := 13) ⟨some 20, _, _, _, _, _⟩ (.agg #[y1, y2]) rfl (by kernel_rfl) (by kernel_rfl) (by kernel_rfl) (by kernel_rfl) (by kernel_rfl) hS0 (Or.inl ⟨by rfl, by (intro X hX; have := And.intro hX.2.2.2.1 hX.2.2.2.2; go_simp)⟩) ?_
  simp only [Act.put, List.setIfInBounds_toArray, List.set_cons_zero, List.set_cons_succ]
  refine Ht.stepS (i := 14) ⟨some 21, _, _, _, _, _⟩ rfl (by kernel_rfl) (by rfl) (fun K hK => ?_)
  refine Ht.enter 148 #[.agg #[x1, x2], .agg #[y1, y2]] (by have hen := fun args w => enters_of (P := Tryz.prog) Tryz.func148 (by kernel_rfl) rfl args w; go_simp) (HC.out _) ?_
  rintro e w1 ⟨rfl, q, os, rfl⟩
  refine ⟨_, rfl, hK _ _ (fun hn => absurd (by decide) hn) (fun hnx => ?_)⟩
  clear hK K hnx
  simp only [Act.put, List.setIfInBounds_toArray, List.set_cons_zero, List.set_cons_succ]
  refine Ht.stepS (i := 15) ⟨some 22, _, _, _, _, _⟩ rfl (by kernel_rfl) (by rfl) (fun K hK => ?_)
  go_simp
  refine hK _ _ (fun hn => absurd (by decide) hn) (fun hnx => ?_)
  clear hK K hnx
  try simp only [Act.put, List.setIfInBounds_toArray, List.set_cons_zero, List.set_cons_succ]
  refine Ht.stepS (i := 16) ⟨some 6, _, _, _, _, _⟩ rfl (by kernel_rfl) (by rfl) (fun K hK => ?_)
  go_simp
  refine hK _ _ (fun hn => absurd (by decide) hn) (fun hnx => ?_)
  clear hK K hnx
  try simp only [Act.put, List.setIfInBounds_toArray, List.set_cons_zero, List.set_cons_succ]
  refine doneS (by kernel_rfl) ?_
  go_wp2_with fail
  go_ret
  exact ⟨by simp, grow_below w os (1 + q)⟩

theorem below_any (h : Hq S w hb iv mv l f) {i : Nat} (hi : i < l.length) (hn : l.length ≤ 1000000) :
    Calls Tryz.prog 131 #[.pointer (some ⟨hb, 0, none⟩), .int .i64 ((i : Nat) : Int)] w fun e w' => e = .returned (.int .i64 ((kid ltp l i : Nat) : Int)) ∧ Below w.heap.size w w' := by
  have e0 : IntKind.i64.wrap (2 * ((i : Nat) : Int)) = ((2 * i : Nat) : Int) := by rw [IntWalk.i64_in] <;> omega
  have e1 : IntKind.i64.wrap (((2 * i : Nat) : Int) + 1) = ((2 * i + 1 : Nat) : Int) := by rw [IntWalk.i64_in] <;> omega
  have e2 : IntKind.i64.wrap (((2 * i + 1 : Nat) : Int) + 1) = ((2 * i + 2 : Nat) : Int) := by rw [IntWalk.i64_in] <;> omega
  have hI := h.items
  obtain ⟨a, cap, hiv, hcap⟩ := h.shape
  rw [hiv] at hI
  by_cases hr : 2 * i + 2 < l.length
  · have hA := ahead_any h (i := 2 * i + 2) (j := 2 * i + 1) hr (by omega) hn
    have hk : ((kid ltp l i : Nat) : Int) = if ltp (el l (2 * i + 2)) (el l (2 * i + 1)) = true then ((2 * i + 2 : Nat) : Int) else ((2 * i + 1 : Nat) : Int) := by unfold kid; by_cases hc : ltp (el l (2 * i + 2)) (el l (2 * i + 1)) = true <;> simp [hr, hc]
    rw [hk]
    clear hk h hiv
    generalize ltp (el l (2 * i + 2)) (el l (2 * i + 1)) = t at *
    generalize l.length = n at *
    have hrx : ((2 * i + 2 : Nat) : Int) < ((n : Nat) : Int) := by omega
    generalize ((2 * i + 2 : Nat) : Int) = J2 at *
    generalize ((2 * i + 1 : Nat) : Int) = J1 at *
    generalize ((2 * i : Nat) : Int) = J0 at *
    generalize ((i : Nat) : Int) = I at *
    go_enter Tryz.func131, Tryz.ntmps131
    go_wp2_with fail
    refine hA.mono ?_
    rintro e w1 ⟨rfl, hb1⟩
    cases t
    all_goals
      go_wp2_with fail
      go_ret
      exact ⟨by simp, hb1⟩
  · have hk : ((kid ltp l i : Nat) : Int) = ((2 * i + 1 : Nat) : Int) := by unfold kid; rw [if_neg (by omega)]
    rw [hk]
    clear hk h hiv
    generalize l.length = n at *
    have hrx : ((n : Nat) : Int) ≤ ((2 * i + 2 : Nat) : Int) := by omega
    generalize ((2 * i + 2 : Nat) : Int) = J2 at *
    generalize ((2 * i + 1 : Nat) : Int) = J1 at *
    generalize ((2 * i : Nat) : Int) = J0 at *
    generalize ((i : Nat) : Int) = I at *
    go_enter Tryz.func131, Tryz.ntmps131
    go_wp2_with fail
    go_ret
    exact ⟨by simp, Below.refl _ _⟩
end
end Go.Proofs.YtcodjknhnhdkfaaGreatDoor.HpE
namespace Go.Proofs.YtcodjknhnhdkfaaGreatDoor.HpE
open Go.RowKit Go.Lib Go.Sort Hp Ht
set_option linter.unusedVariables false
set_option maxRecDepth 20000
theorem Blk.free {w : World} {g cap : Nat} {l : List (K × Int)} (h : Blk w g cap l) (k : Nat) : w.frozen? ⟨g, k, none⟩ = false := by
  obtain ⟨cur, h1, _⟩ := h.here
  simp [World.frozen?, h1]
theorem grown_drew {w X : World} {r : Option Nat} (h : w.grownBy X r) : w.grownBy X.drew r := ⟨h.os, h.tape, h.output, h.size, h.block⟩
section
variable {S : Nat → Prop} {w : World} {hb : Nat} {iv mv : Value} {l : List (K × Int)} {f : K → Option Nat}
theorem swap_any (h : Hq S w hb iv mv l f) {i j : Nat} (hi : i < l.length) (hj : j < l.length) (hn : l.length ≤ 1000000) :
    Calls Tryz.prog 130 #[.pointer (some ⟨hb, 0, none⟩), .int .i64 ((i : Nat) : Int), .int .i64 ((j : Nat) : Int)] w fun e w' => e = .returned (.tuple #[]) ∧ (∃ f', Hq S w' hb iv mv (sw l i j) f') ∧ Fr S w w' := by
  have hI := h.items
  have hP := h.places
  obtain ⟨g, cap, b, rfl, hB, rfl, hM, hSg, hSb, hgb, hbb, hgm⟩ := h.at (by omega)
  have HH := Lib.hid (And.intro h (And.intro hB (And.intro hM (And.intro hSg (And.intro hSb (And.intro hgb (And.intro hbb hgm)))))))
  have k1 := hB.key hi
  have r1 := hB.rank hi
  have k2 := hB.key hj
  have r2 := hB.rank hj
  have fz1 := hB.free (i * 2)
  have fz2 := hB.free (i * 2 + 1)
  have hB1 := Blk.set hB i (el l j).1 (el l j).2 hi
  have HB1 := Lib.hid hB1
  have k3 := hB1.key (i := j) (by simpa using hj)
  have r3 := hB1.rank (i := j) (by simpa using hj)
  have fz3 := hB1.free (j * 2)
  have fz4 := hB1.free (j * 2 + 1)
  have HB2 := Lib.hid (Blk.set hB1 j (el l i).1 (el l i).2 (by simpa using hj))
  clear hM hB h hSg hSb hgb hbb hgm hB1
  obtain ⟨p1, hp1⟩ : ∃ x, x = (el l i).1 := ⟨_, rfl⟩
  obtain ⟨q1, hq1⟩ : ∃ x, x = (el l i).2 := ⟨_, rfl⟩
  obtain ⟨p2, hp2⟩ : ∃ x, x = (el l j).1 := ⟨_, rfl⟩
  obtain ⟨q2, hq2⟩ : ∃ x, x = (el l j).2 := ⟨_, rfl⟩
  obtain ⟨p3, hp3⟩ : ∃ x, x = (el (l.set i ((el l j).1, (el l j).2)) j).1 := ⟨_, rfl⟩
  obtain ⟨q3, hq3⟩ : ∃ x, x = (el (l.set i ((el l j).1, (el l j).2)) j).2 := ⟨_, rfl⟩
  rw [← hp3] at k3
  rw [← hq3] at r3
  rw [← hp1] at k1
  rw [← hq1] at r1
  rw [← hp2] at k2
  rw [← hq2] at r2
  rw [← hp2, ← hq2] at k3 r3 fz3 fz4
  unfold ek at k1 k2
  unfold er at r1 r2
  unfold ek er at k3 r3 fz3 fz4
  obtain ⟨n, hln⟩ : ∃ n, n = l.length := ⟨_, rfl⟩
  rw [← hln] at hI
  have hix : ((i : Nat) : Int) < ((n : Nat) : Int) := by omega
  have hjx : ((j : Nat) : Int) < ((n : Nat) : Int) := by omega
  have HL := Lib.hid (And.intro hp1 (And.intro hq1 (And.intro hp2 (And.intro hq2 (And.intro hln (And.intro hi (And.intro hj hn)))))))
  clear hp1 hq1 hp2 hq2 hp3 hq3 hln hi hj hn
  have hmix : Tryz.prog.follows .mixedOrders = true := by kernel_rfl
  go_enter Tryz.func130, Tryz.ntmps130
  go_wp2_with fail
  refine begin' 99 (fun _ => True) hmix trivial (fun _ => ?_)
  refine Ht.takeN (i := 9) ⟨some 15, _, _, _, _, _⟩ (.int .i64 ((j : Nat) : Int)) rfl (Nat.le_of_ble_eq_true (by kernel_rfl)) (by kernel_rfl) (by kernel_rfl) (by kernel_rfl) (by kernel_rfl) trivial (Or.inl ⟨by rfl, by (intro X hX; go_simp)⟩) ?_
  simp only [Act.put, List.setIfInBounds_toArray, List.set_cons_zero, List.set_cons_succ]
  refine later [25, 26, 27] (fun X => X.cell? ⟨hb, 0, none⟩ = some (.slice (some ⟨g, 0, none⟩) n cap) ∧ X.cell? ⟨g, i * 2, none⟩ = some (.string ⟨p1.toArray⟩) ∧ X.cell? ⟨g, i * 2 + 1, none⟩ = some (.int .u64 q1) ∧ X.cell? ⟨g, j * 2, none⟩ = some (.string ⟨p2.toArray⟩) ∧ X.cell? ⟨g, j * 2 + 1, none⟩ = some (.int .u64 q2)) (⟨hI, k1, r1, k2, r2⟩) (fun hS0 => ?_)
  refine Ht.takeS 10 (i := 0) ⟨some 6, _, _, _, _, _⟩ (.pointer (some ⟨hb, 0, none⟩)) rfl (by kernel_rfl) (by kernel_rfl) (by kernel_rfl) (by kernel_rfl) (by kernel_rfl) hS0 (Or.inl ⟨by rfl, by (intro X hX; go_simp)⟩) ?_
  simp only [Act.put, List.setIfInBounds_toArray, List.set_cons_zero, List.set_cons_succ]
  refine Ht.takeS 10 (i := 1) ⟨some 7, _, _, _, _, _⟩ (.pointer (some ⟨hb, 0, none⟩)) rfl (by kernel_rfl) (by kernel_rfl) (by kernel_rfl) (by kernel_rfl) (by kernel_rfl) hS0 (Or.inl ⟨by rfl, by (intro X hX; go_simp)⟩) ?_
  simp only [Act.put, List.setIfInBounds_toArray, List.set_cons_zero, List.set_cons_succ]
  refine Ht.takeS 10 (i := 2) ⟨some 8, _, _, _, _, _⟩ (.pointer (some ⟨hb, 0, none⟩)) rfl (by kernel_rfl) (by kernel_rfl) (by kernel_rfl) (by kernel_rfl) (by kernel_rfl) hS0 (Or.inl ⟨by rfl, by (intro X hX; go_simp)⟩) ?_
  simp only [Act.put, List.setIfInBounds_toArray, List.set_cons_zero, List.set_cons_succ]
  refine Ht.takeS 10 (i := 3) ⟨some 9, _, _, _, _, _⟩ (.slice (some ⟨g, 0, none⟩) n cap) rfl (by kernel_rfl) (by kernel_rfl) (by kernel_rfl) (by kernel_rfl) (by kernel_rfl) hS0 (Or.inl ⟨by rfl, by (intro X hX; have := hX.1; go_simp)⟩) ?_
  simp only [Act.put, List.setIfInBounds_toArray, List.set_cons_zero, List.set_cons_succ]
  refine Ht.takeS 10 (i := 4) ⟨some 10, _, _, _, _, _⟩ (.int .i64 ((i : Nat) : Int)) rfl (by kernel_rfl) (by kernel_rfl) (by kernel_rfl) (by kernel_rfl) (by kernel_rfl) hS0 (Or.inl ⟨by rfl, by (intro X hX; go_simp)⟩) ?_
  simp only [Act.put, List.setIfInBounds_toArray, List.set_cons_zero, List.set_cons_succ]
  refine Ht.takeS 10 (i := 5) ⟨some 11, _, _, _, _, _⟩ (.pointer (some ⟨hb, 0, none⟩)) rfl (by kernel_rfl) (by kernel_rfl) (by kernel_rfl) (by kernel_rfl) (by kernel_rfl) hS0 (Or.inl ⟨by rfl, by (intro X hX; go_simp)⟩) ?_
  simp only [Act.put, List.setIfInBounds_toArray, List.set_cons_zero, List.set_cons_succ]
  refine Ht.takeS 10 (i := 6) ⟨some 12, _, _, _, _, _⟩ (.pointer (some ⟨hb, 0, none⟩)) rfl (by kernel_rfl) (by kernel_rfl) (by kernel_rfl) (by kernel_rfl) (by kernel_rfl) hS0 (Or.inl ⟨by rfl, by (intro X hX; go_simp)⟩) ?_
  simp only [Act.put, List.setIfInBounds_toArray, List.set_cons_zero, List.set_cons_succ]
  refine Ht.takeS 10 (i := 7) ⟨some 13, _, _, _, _, _⟩ (.pointer (some ⟨hb, 0, none⟩)) rfl (by kernel_rfl) (by kernel_rfl) (by kernel_rfl) (by kernel_rfl) (by kernel_rfl) hS0 (Or.inl ⟨by rfl, by (intro X hX; go_simp)⟩) ?_
  simp only [Act.put, List.setIfInBounds_toArray, List.set_cons_zero, List.set_cons_succ]
  refine Ht.takeS 10 (i := 8) ⟨some 14, _, _, _, _, _⟩ (.slice (some ⟨g, 0, none⟩) n cap) rfl (by kernel_rfl) (by kernel_rfl) (by kernel_rfl) (by kernel_rfl) (by kernel_rfl) hS0 (Or.inl ⟨by rfl, by (intro X hX; have := hX.1; go_simp)⟩) ?_
  simp only [Act.put, List.setIfInBounds_toArray, List.set_cons_zero, List.set_cons_succ]
  refine Ht.takeS 10 (i := 10) ⟨some 16, _, _, _, _, _⟩ (.pointer (some ⟨hb, 0, none⟩)) rfl (by kernel_rfl) (by kernel_rfl) (by kernel_rfl) (by kernel_rfl) (by kernel_rfl) hS0 (Or.inl ⟨by rfl, by (intro X hX; go_simp)⟩) ?_
  simp only [Act.put, List.setIfInBounds_toArray, List.set_cons_zero, List.set_cons_succ]
  refine Ht.takeS 10 (i := 11) ⟨some 17, _, _, _, _, _⟩ (.pointer (some ⟨hb, 0, none⟩)) rfl (by kernel_rfl) (by kernel_rfl) (by kernel_rfl) (by kernel_rfl) (by kernel_rfl) hS0 (Or.inl ⟨by rfl, by (intro X hX; go_simp)⟩) ?_
  simp only [Act.put, List.setIfInBounds_toArray, List.set_cons_zero, List.set_cons_succ]
  refine Ht.takeS 10 (i := 12) ⟨some 18, _, _, _, _, _⟩ (.pointer (some ⟨hb, 0, none⟩)) rfl (by kernel_rfl) (by kernel_rfl) (by kernel_rfl) (by kernel_rfl) (by kernel_rfl) hS0 (Or.inl ⟨by rfl, by (intro X hX; go_simp)⟩) ?_
  simp only [Act.put, List.setIfInBounds_toArray, List.set_cons_zero, List.set_cons_succ]
  refine Ht.takeS 10 (i := 13) ⟨some 19, _, _, _, _, _⟩ (.slice (some ⟨g, 0, none⟩) n cap) rfl (by kernel_rfl) (by kernel_rfl) (by kernel_rfl) (by kernel_rfl) (by kernel_rfl) hS0 (Or.inl ⟨by rfl, by (intro X hX; have := hX.1; go_simp)⟩) ?_
  simp only [Act.put, List.setIfInBounds_toArray, List.set_cons_zero, List.set_cons_succ]
  refine Ht.takeS 10 (i := 14) ⟨some 20, _, _, _, _, _⟩ (.int .i64 ((j : Nat) : Int)) rfl (by kernel_rfl) (by kernel_rfl) (by kernel_rfl) (by kernel_rfl) (by kernel_rfl) hS0 (Or.inl ⟨by rfl, by (intro X hX; go_simp)⟩) ?_
  simp only [Act.put, List.setIfInBounds_toArray, List.set_cons_zero, List.set_cons_succ]
  refine Ht.takeS 10 (i := 15) ⟨some 21, _, _, _, _, _⟩ (.pointer (some ⟨g, j * 2, none⟩)) rfl (by kernel_rfl) (by kernel_rfl) (by kernel_rfl) (by kernel_rfl) (by kernel_rfl) hS0 (Or.inl ⟨by rfl, by (intro X hX; go_simp)⟩) ?_
  simp only [Act.put, List.setIfInBounds_toArray, List.set_cons_zero, List.set_cons_succ]
  refine Ht.takeS 10 (i := 16) ⟨some 22, _, _, _, _, _⟩ (.agg #[(.string ⟨p2.toArray⟩), (.int .u64 q2)]) rfl (by kernel_rfl) (by kernel_rfl) (by kernel_rfl) (by kernel_rfl) (by kernel_rfl) hS0 (Or.inl ⟨by rfl, by (intro X hX; have := And.intro hX.2.2.2.1 hX.2.2.2.2; go_simp)⟩) ?_
  simp only [Act.put, List.setIfInBounds_toArray, List.set_cons_zero, List.set_cons_succ]
  refine Ht.takeS 10 (i := 17) ⟨some 23, _, _, _, _, _⟩ (.pointer (some ⟨hb, 0, none⟩)) rfl (by kernel_rfl) (by kernel_rfl) (by kernel_rfl) (by kernel_rfl) (by kernel_rfl) hS0 (Or.inl ⟨by rfl, by (intro X hX; go_simp)⟩) ?_
  simp only [Act.put, List.setIfInBounds_toArray, List.set_cons_zero, List.set_cons_succ]
  refine Ht.takeS 10 (i := 18) ⟨some 24, _, _, _, _, _⟩ (.pointer (some ⟨hb, 0, none⟩)) rfl (by kernel_rfl) (by kernel_rfl) (by kernel_rfl) (by kernel_rfl) (by kernel_rfl) hS0 (Or.inl ⟨by rfl, by (intro X hX; go_simp)⟩) ?_
  simp only [Act.put, List.setIfInBounds_toArray, List.set_cons_zero, List.set_cons_succ]
  refine Ht.takeS 10 (i := 19) ⟨some 25, _, _, _, _, _⟩ (.pointer (some ⟨hb, 0, none⟩)) rfl (by kernel_rfl) (by kernel_rfl) (by kernel_rfl) (by kernel_rfl) (by kernel_rfl) hS0 (Or.inl ⟨by rfl, by (intro X hX; go_simp)⟩) ?_
  simp only [Act.put, List.setIfInBounds_toArray, List.set_cons_zero, List.set_cons_succ]
  refine Ht.takeS 10 (i := 20) ⟨some 26, _, _, _, _, _⟩ (.slice (some ⟨g, 0, none⟩) n cap) rfl (by kernel_rfl) (by kernel_rfl) (by kernel_rfl) (by kernel_rfl) (by kernel_rfl) hS0 (Or.inl ⟨by rfl, by (intro X hX; have := hX.1; go_simp)⟩) ?_
  simp only [Act.put, List.setIfInBounds_toArray, List.set_cons_zero, List.set_cons_succ]
  refine Ht.takeS 10 (i := 21) ⟨some 27, _, _, _, _, _⟩ (.int .i64 ((i : Nat) : Int)) rfl (by kernel_rfl) (by kernel_rfl) (by kernel_rfl) (by kernel_rfl) (by kernel_rfl) hS0 (Or.inl ⟨by rfl, by (intro X hX; go_simp)⟩) ?_
  simp only [Act.put, List.setIfInBounds_toArray, List.set_cons_zero, List.set_cons_succ]
  refine Ht.takeS 10 (i := 22) ⟨some 28, _, _, _, _, _⟩ (.pointer (some ⟨g, i * 2, none⟩)) rfl (by kernel_rfl) (by kernel_rfl) (by kernel_rfl) (by kernel_rfl) (by kernel_rfl) hS0 (Or.inl ⟨by rfl, by (intro X hX; go_simp)⟩) ?_
  simp only [Act.put, List.setIfInBounds_toArray, List.set_cons_zero, List.set_cons_succ]
  refine Ht.takeS 10 (i := 23) ⟨some 29, _, _, _, _, _⟩ (.agg #[(.string ⟨p1.toArray⟩), (.int .u64 q1)]) rfl (by kernel_rfl) (by kernel_rfl) (by kernel_rfl) (by kernel_rfl) (by kernel_rfl) hS0 (Or.inl ⟨by rfl, by (intro X hX; have := And.intro hX.2.1 hX.2.2.1; go_simp)⟩) ?_
  simp only [Act.put, List.setIfInBounds_toArray, List.set_cons_zero, List.set_cons_succ]
  refine Ht.takeS 10 (i := 24) ⟨some 30, _, _, _, _, _⟩ (.pointer (some ⟨g, i * 2, none⟩)) rfl (by kernel_rfl) (by kernel_rfl) (by kernel_rfl) (by kernel_rfl) (by kernel_rfl) hS0 (Or.inl ⟨by rfl, by (intro X hX; go_simp)⟩) ?_
  simp only [Act.put, List.setIfInBounds_toArray, List.set_cons_zero, List.set_cons_succ]
  refine Ht.stepS (i := 25) ⟨none, _, _, _, _, _⟩ rfl (by kernel_rfl) (by rfl) (fun K hK => ?_)
  have a1 : w.drew.cell? ⟨g, i * 2, none⟩ = some (.string ⟨p1.toArray⟩) := k1
  have a2 : w.drew.cell? ⟨g, i * 2 + 1, none⟩ = some (.int .u64 q1) := r1
  have a3 : w.drew.frozen? ⟨g, i * 2, none⟩ = false := fz1
  have a4 : w.drew.frozen? ⟨g, i * 2 + 1, none⟩ = false := fz2
  go_simp
  clear a1 a2 a3 a4
  refine hK _ _ (fun hn => absurd (by decide) hn) (fun hnx => ?_)
  clear hK K hnx
  try simp only [Act.put, List.setIfInBounds_toArray, List.set_cons_zero, List.set_cons_succ]
  refine Ht.stepS (i := 26) ⟨some 31, _, _, _, _, _⟩ rfl (by kernel_rfl) (by rfl) (fun K hK => ?_)
  go_simp
  refine hK _ _ (fun hn => absurd (by decide) hn) (fun hnx => ?_)
  clear hK K hnx
  try simp only [Act.put, List.setIfInBounds_toArray, List.set_cons_zero, List.set_cons_succ]
  refine Ht.stepS (i := 27) ⟨none, _, _, _, _, _⟩ rfl (by kernel_rfl) (by rfl) (fun K hK => ?_)
  obtain ⟨U, hU⟩ : ∃ U, U = (w.setCell ⟨g, i * 2, none⟩ ((.string ⟨p2.toArray⟩))).setCell ⟨g, i * 2 + 1, none⟩ ((.int .u64 q2)) := ⟨_, rfl⟩
  have a1 : U.drew.cell? ⟨g, j * 2, none⟩ = some ((.string ⟨p3.toArray⟩)) := by rw [hU]; exact k3
  have a2 : U.drew.cell? ⟨g, j * 2 + 1, none⟩ = some ((.int .u64 q3)) := by rw [hU]; exact r3
  have a3 : U.drew.frozen? ⟨g, j * 2, none⟩ = false := by rw [hU]; exact fz3
  have a4 : U.drew.frozen? ⟨g, j * 2 + 1, none⟩ = false := by rw [hU]; exact fz4
  have a5 : U.cell? ⟨g, j * 2 + 1, none⟩ = some ((.int .u64 q3)) := a2
  have a6 : U.frozen? ⟨g, j * 2 + 1, none⟩ = false := a4
  rw [← hU]
  have HU := Lib.hid hU
  clear hU
  go_simp
  clear a1 a2 a3 a4 a5 a6
  refine hK _ _ (fun hn => absurd (by decide) hn) (fun hnx => ?_)
  clear hK K hnx
  try simp only [Act.put, List.setIfInBounds_toArray, List.set_cons_zero, List.set_cons_succ]
  refine doneS (by kernel_rfl) ?_
  obtain ⟨V, hV⟩ : ∃ V, V = ((U.setCell ⟨g, j * 2, none⟩ ((.string ⟨p1.toArray⟩))).setCell ⟨g, j * 2 + 1, none⟩ ((.int .u64 q1))).drew := ⟨_, rfl⟩
  rw [← hV]
  obtain ⟨h, hB, hM, hSg, hSb, hgb, hbb, hgm⟩ := HH.out
  obtain ⟨hp1, hq1, hp2, hq2, hln, hi, hj, hn⟩ := HL.out
  have hBV : Blk V g cap (sw l i j) := by
    rw [hV, HU.out, hp1, hq1, hp2, hq2]
    exact HB2.out.kept rfl
  have hgr : w.grownBy V (some g) := by
    rw [hV, HU.out]
    exact grown_drew (Lib.grownBy_setB (Lib.grownBy_setB (Lib.grownBy_setB (Lib.grownBy_setCell w g _ _) _ _) _ _) _ _)
  have hobj : V.heap[hb]? = w.heap[hb]? := hgr.block hb (h.size hb h.own) (fun e => hgb (Option.some.inj e).symm)
  have hmap : V.heap[b]? = w.heap[b]? := hgr.block b (h.size b hSb) (fun e => hgm (Option.some.inj e).symm)
  have hMV : Mq V b l.length f := hM.kept hmap
  have hI : V.cell? ⟨hb, 0, none⟩ = some (.slice (some ⟨g, 0, none⟩) n cap) := by rw [hln, cell_of_row V hb 0 _ _ _ (hobj.trans h.obj)]; rfl
  have hP : V.cell? ⟨hb, 1, none⟩ = some (.map (some b)) := by rw [cell_of_row V hb 1 _ _ _ (hobj.trans h.obj)]; rfl
  have hk1 := hBV.key (i := i) (by rw [len_sw]; exact hi)
  have hk2 := hBV.key (i := j) (by rw [len_sw]; exact hj)
  have hpl := h.pl.sw hi hj
  have hq := h.keys
  -- the map
  obtain ⟨c1, hc1⟩ : ∃ x, x = (el (sw l i j) i).1 := ⟨_, rfl⟩
  obtain ⟨c2, hc2⟩ : ∃ x, x = (el (sw l i j) j).1 := ⟨_, rfl⟩
  have e1 : c1 = (el l j).1 := by rw [hc1, sw_l l hi hj]
  have e2 : c2 = (el l i).1 := by rw [hc2, sw_r l hj]
  have w1 : wk c1 := by rw [e1]; exact hq _ (el_mem hj)
  have w2 : wk c2 := by rw [e2]; exact hq _ (el_mem hi)
  have f1 : (f c1).isSome = true := by rw [e1, h.pl.key hj]; rfl
  have f2 : (f c2).isSome = true := by rw [e2, h.pl.key hi]; rfl
  rw [← hc1] at hk1
  rw [← hc2] at hk2
  rw [← hc1, ← hc2] at hpl
  have hmax : l.length < maxLen := by unfold maxLen; omega
  have hMd : Mq V.drew b l.length f := hMV.kept rfl
  obtain ⟨s1, v1, st1, run1⟩ := hMd.entry kind w1 (by rw [mf_some]; exact f1)
  obtain ⟨V2, run2, hM2, hg2, st2⟩ := hMd.store kind hmax w1 (by rw [mf_some]; exact f1) st1 (wf_nat (i := i) (by omega))
  have f2' : ((upd (mf f) c1 ((i : Nat) : Int)) c2).isSome = true := by unfold upd; split; rfl; rw [mf_some]; exact f2
  obtain ⟨s2, v2, st3, run3⟩ := Mp.entry kind hM2 w2 f2'
  obtain ⟨V3, run4, hM3, hg3, _⟩ := Mp.store kind hM2 hmax w2 f2' st3 (wf_nat (i := j) (by omega))
  have HV := Lib.hid (And.intro hpl (And.intro hBV (And.intro hgr (And.intro hobj (And.intro hg2 (And.intro hM3 hg3))))))
  clear hM2 hM3 hg2 hg3 st1 st2 st3 hMd hMV hpl hBV hgr hobj hmap h hB hM hSg hSb hgb hbb hgm hp1 hq1 hp2 hq2 hln hi hj hn hq e1 e2 hc1 hc2 w1 w2 f1 f2 f2' hmax hV HU HB1 HB2 k1 k2 k3 r1 r2 r3 fz1 fz2 fz3 fz4 hS0
  unfold ek at hk1 hk2 run1 run3
  unfold goInt at run1 run2 run3 run4
  go_wp2_with fail
  refine begin' 99 (fun _ => True) hmix trivial (fun _ => ?_)
  refine Ht.takeN (i := 24) ⟨some 56, _, _, _, _, _⟩ (.int .i64 ((i : Nat) : Int)) rfl (Nat.le_of_ble_eq_true (by kernel_rfl)) (by kernel_rfl) (by kernel_rfl) (by kernel_rfl) (by kernel_rfl) trivial (Or.inl ⟨by rfl, by (intro X hX; go_simp)⟩) ?_
  simp only [Act.put, List.setIfInBounds_toArray, List.set_cons_zero, List.set_cons_succ]
  refine Ht.takeN (i := 25) ⟨some 57, _, _, _, _, _⟩ (.int .i64 ((j : Nat) : Int)) rfl (Nat.le_of_ble_eq_true (by kernel_rfl)) (by kernel_rfl) (by kernel_rfl) (by kernel_rfl) (by kernel_rfl) trivial (Or.inl ⟨by rfl, by (intro X hX; go_simp)⟩) ?_
  simp only [Act.put, List.setIfInBounds_toArray, List.set_cons_zero, List.set_cons_succ]
  refine later [26, 27, 28, 29, 30, 31] (fun X => X.cell? ⟨hb, 0, none⟩ = some (.slice (some ⟨g, 0, none⟩) n cap) ∧ X.cell? ⟨hb, 1, none⟩ = some (.map (some b)) ∧ X.cell? ⟨g, i * 2, none⟩ = some ((.string ⟨c1.toArray⟩)) ∧ X.cell? ⟨g, j * 2, none⟩ = some ((.string ⟨c2.toArray⟩))) (⟨hI, hP, hk1, hk2⟩) (fun hS0 => ?_)
  refine Ht.takeS 10 (i := 0) ⟨some 32, _, _, _, _, _⟩ (.pointer (some ⟨hb, 0, none⟩)) rfl (by kernel_rfl) (by kernel_rfl) (by kernel_rfl) (by kernel_rfl) (by kernel_rfl) hS0 (Or.inl ⟨by rfl, by (intro X hX; go_simp)⟩) ?_
  simp only [Act.put, List.setIfInBounds_toArray, List.set_cons_zero, List.set_cons_succ]
  refine Ht.takeS 10 (i := 1) ⟨some 33, _, _, _, _, _⟩ (.pointer (some ⟨hb, 0, none⟩)) rfl (by kernel_rfl) (by kernel_rfl) (by kernel_rfl) (by kernel_rfl) (by kernel_rfl) hS0 (Or.inl ⟨by rfl, by (intro X hX; go_simp)⟩) ?_
  simp only [Act.put, List.setIfInBounds_toArray, List.set_cons_zero, List.set_cons_succ]
  refine Ht.takeS 10 (i := 2) ⟨some 34, _, _, _, _, _⟩ (.pointer (some ⟨hb, 1, none⟩)) rfl (by kernel_rfl) (by kernel_rfl) (by kernel_rfl) (by kernel_rfl) (by kernel_rfl) hS0 (Or.inl ⟨by rfl, by (intro X hX; go_simp)⟩) ?_
  simp only [Act.put, List.setIfInBounds_toArray, List.set_cons_zero, List.set_cons_succ]
  refine Ht.takeS 10 (i := 3) ⟨some 35, _, _, _, _, _⟩ (.map (some b)) rfl (by kernel_rfl) (by kernel_rfl) (by kernel_rfl) (by kernel_rfl) (by kernel_rfl) hS0 (Or.inl ⟨by rfl, by (intro X hX; have := hX.2.1; go_simp)⟩) ?_
  simp only [Act.put, List.setIfInBounds_toArray, List.set_cons_zero, List.set_cons_succ]
  refine Ht.takeS 10 (i := 4) ⟨some 36, _, _, _, _, _⟩ (.pointer (some ⟨hb, 0, none⟩)) rfl (by kernel_rfl) (by kernel_rfl) (by kernel_rfl) (by kernel_rfl) (by kernel_rfl) hS0 (Or.inl ⟨by rfl, by (intro X hX; go_simp)⟩) ?_
  simp only [Act.put, List.setIfInBounds_toArray, List.set_cons_zero, List.set_cons_succ]
  refine Ht.takeS 10 (i := 5) ⟨some 37, _, _, _, _, _⟩ (.pointer (some ⟨hb, 0, none⟩)) rfl (by kernel_rfl) (by kernel_rfl) (by kernel_rfl) (by kernel_rfl) (by kernel_rfl) hS0 (Or.inl ⟨by rfl, by (intro X hX; go_simp)⟩) ?_
  simp only [Act.put, List.setIfInBounds_toArray, List.set_cons_zero, List.set_cons_succ]
  refine Ht.takeS 10 (i := 6) ⟨some 38, _, _, _, _, _⟩ (.pointer (some ⟨hb, 0, none⟩)) rfl (by kernel_rfl) (by kernel_rfl) (by kernel_rfl) (by kernel_rfl) (by kernel_rfl) hS0 (Or.inl ⟨by rfl, by (intro X hX; go_simp)⟩) ?_
  simp only [Act.put, List.setIfInBounds_toArray, List.set_cons_zero, List.set_cons_succ]
  refine Ht.takeS 10 (i := 7) ⟨some 39, _, _, _, _, _⟩ (.slice (some ⟨g, 0, none⟩) n cap) rfl (by kernel_rfl) (by kernel_rfl) (by kernel_rfl) (by kernel_rfl) (by kernel_rfl) hS0 (Or.inl ⟨by rfl, by (intro X hX; have := hX.1; go_simp)⟩) ?_
  simp only [Act.put, List.setIfInBounds_toArray, List.set_cons_zero, List.set_cons_succ]
  refine Ht.takeS 10 (i := 8) ⟨some 40, _, _, _, _, _⟩ (.int .i64 ((i : Nat) : Int)) rfl (by kernel_rfl) (by kernel_rfl) (by kernel_rfl) (by kernel_rfl) (by kernel_rfl) hS0 (Or.inl ⟨by rfl, by (intro X hX; go_simp)⟩) ?_
  simp only [Act.put, List.setIfInBounds_toArray, List.set_cons_zero, List.set_cons_succ]
  refine Ht.takeS 10 (i := 9) ⟨some 41, _, _, _, _, _⟩ (.pointer (some ⟨g, i * 2, none⟩)) rfl (by kernel_rfl) (by kernel_rfl) (by kernel_rfl) (by kernel_rfl) (by kernel_rfl) hS0 (Or.inl ⟨by rfl, by (intro X hX; go_simp)⟩) ?_
  simp only [Act.put, List.setIfInBounds_toArray, List.set_cons_zero, List.set_cons_succ]
  refine Ht.takeS 10 (i := 10) ⟨some 42, _, _, _, _, _⟩ (.pointer (some ⟨g, i * 2, none⟩)) rfl (by kernel_rfl) (by kernel_rfl) (by kernel_rfl) (by kernel_rfl) (by kernel_rfl) hS0 (Or.inl ⟨by rfl, by (intro X hX; go_simp)⟩) ?_
  simp only [Act.put, List.setIfInBounds_toArray, List.set_cons_zero, List.set_cons_succ]
  refine Ht.takeS 10 (i := 11) ⟨some 43, _, _, _, _, _⟩ ((.string ⟨c1.toArray⟩)) rfl (by kernel_rfl) (by kernel_rfl) (by kernel_rfl) (by kernel_rfl) (by kernel_rfl) hS0 (Or.inl ⟨by rfl, by (intro X hX; have := hX.2.2.1; go_simp)⟩) ?_
  simp only [Act.put, List.setIfInBounds_toArray, List.set_cons_zero, List.set_cons_succ]
  refine Ht.takeS 10 (i := 12) ⟨some 44, _, _, _, _, _⟩ (.pointer (some ⟨hb, 0, none⟩)) rfl (by kernel_rfl) (by kernel_rfl) (by kernel_rfl) (by kernel_rfl) (by kernel_rfl) hS0 (Or.inl ⟨by rfl, by (intro X hX; go_simp)⟩) ?_
  simp only [Act.put, List.setIfInBounds_toArray, List.set_cons_zero, List.set_cons_succ]
  refine Ht.takeS 10 (i := 13) ⟨some 45, _, _, _, _, _⟩ (.pointer (some ⟨hb, 0, none⟩)) rfl (by kernel_rfl) (by kernel_rfl) (by kernel_rfl) (by kernel_rfl) (by kernel_rfl) hS0 (Or.inl ⟨by rfl, by (intro X hX; go_simp)⟩) ?_
  simp only [Act.put, List.setIfInBounds_toArray, List.set_cons_zero, List.set_cons_succ]
  refine Ht.takeS 10 (i := 14) ⟨some 46, _, _, _, _, _⟩ (.pointer (some ⟨hb, 1, none⟩)) rfl (by kernel_rfl) (by kernel_rfl) (by kernel_rfl) (by kernel_rfl) (by kernel_rfl) hS0 (Or.inl ⟨by rfl, by (intro X hX; go_simp)⟩) ?_
  simp only [Act.put, List.setIfInBounds_toArray, List.set_cons_zero, List.set_cons_succ]
  refine Ht.takeS 10 (i := 15) ⟨some 47, _, _, _, _, _⟩ (.map (some b)) rfl (by kernel_rfl) (by kernel_rfl) (by kernel_rfl) (by kernel_rfl) (by kernel_rfl) hS0 (Or.inl ⟨by rfl, by (intro X hX; have := hX.2.1; go_simp)⟩) ?_
  simp only [Act.put, List.setIfInBounds_toArray, List.set_cons_zero, List.set_cons_succ]
  refine Ht.takeS 10 (i := 16) ⟨some 48, _, _, _, _, _⟩ (.pointer (some ⟨hb, 0, none⟩)) rfl (by kernel_rfl) (by kernel_rfl) (by kernel_rfl) (by kernel_rfl) (by kernel_rfl) hS0 (Or.inl ⟨by rfl, by (intro X hX; go_simp)⟩) ?_
  simp only [Act.put, List.setIfInBounds_toArray, List.set_cons_zero, List.set_cons_succ]
  refine Ht.takeS 10 (i := 17) ⟨some 49, _, _, _, _, _⟩ (.pointer (some ⟨hb, 0, none⟩)) rfl (by kernel_rfl) (by kernel_rfl) (by kernel_rfl) (by kernel_rfl) (by kernel_rfl) hS0 (Or.inl ⟨by rfl, by (intro X hX; go_simp)⟩) ?_
  simp only [Act.put, List.setIfInBounds_toArray, List.set_cons_zero, List.set_cons_succ]
  refine Ht.takeS 10 (i := 18) ⟨some 50, _, _, _, _, _⟩ (.pointer (some ⟨hb, 0, none⟩)) rfl (by kernel_rfl) (by kernel_rfl) (by kernel_rfl) (by kernel_rfl) (by kernel_rfl) hS0 (Or.inl ⟨by rfl, by (intro X hX; go_simp)⟩) ?_
  simp only [Act.put, List.setIfInBounds_toArray, List.set_cons_zero, List.set_cons_succ]
  refine Ht.takeS 10 (i := 19) ⟨some 51, _, _, _, _, _⟩ (.slice (some ⟨g, 0, none⟩) n cap) rfl (by kernel_rfl) (by kernel_rfl) (by kernel_rfl) (by kernel_rfl) (by kernel_rfl) hS0 (Or.inl ⟨by rfl, by (intro X hX; have := hX.1; go_simp)⟩) ?_
  simp only [Act.put, List.setIfInBounds_toArray, List.set_cons_zero, List.set_cons_succ]
  refine Ht.takeS 10 (i := 20) ⟨some 52, _, _, _, _, _⟩ (.int .i64 ((j : Nat) : Int)) rfl (by kernel_rfl) (by kernel_rfl) (by kernel_rfl) (by kernel_rfl) (by kernel_rfl) hS0 (Or.inl ⟨by rfl, by (intro X hX; go_simp)⟩) ?_
  simp only [Act.put, List.setIfInBounds_toArray, List.set_cons_zero, List.set_cons_succ]
  refine Ht.takeS 10 (i := 21) ⟨some 53, _, _, _, _, _⟩ (.pointer (some ⟨g, j * 2, none⟩)) rfl (by kernel_rfl) (by kernel_rfl) (by kernel_rfl) (by kernel_rfl) (by kernel_rfl) hS0 (Or.inl ⟨by rfl, by (intro X hX; go_simp)⟩) ?_
  simp only [Act.put, List.setIfInBounds_toArray, List.set_cons_zero, List.set_cons_succ]
  refine Ht.takeS 10 (i := 22) ⟨some 54, _, _, _, _, _⟩ (.pointer (some ⟨g, j * 2, none⟩)) rfl (by kernel_rfl) (by kernel_rfl) (by kernel_rfl) (by kernel_rfl) (by kernel_rfl) hS0 (Or.inl ⟨by rfl, by (intro X hX; go_simp)⟩) ?_
  simp only [Act.put, List.setIfInBounds_toArray, List.set_cons_zero, List.set_cons_succ]
  refine Ht.takeS 10 (i := 23) ⟨some 55, _, _, _, _, _⟩ ((.string ⟨c2.toArray⟩)) rfl (by kernel_rfl) (by kernel_rfl) (by kernel_rfl) (by kernel_rfl) (by kernel_rfl) hS0 (Or.inl ⟨by rfl, by (intro X hX; have := hX.2.2.2; go_simp)⟩) ?_
  simp only [Act.put, List.setIfInBounds_toArray, List.set_cons_zero, List.set_cons_succ]
  refine Ht.stepS (i := 26) ⟨some 58, _, _, _, _, _⟩ rfl (by kernel_rfl) (by rfl) (fun K hK => ?_)
  go_simp
  refine hK _ _ (fun hn => absurd (by decide) hn) (fun hnx => ?_)
  clear hK K hnx
  try simp only [Act.put, List.setIfInBounds_toArray, List.set_cons_zero, List.set_cons_succ]
  refine Ht.stepS (i := 27) ⟨some 59, _, _, _, _, _⟩ rfl (by kernel_rfl) (by rfl) (fun K hK => ?_)
  go_simp
  refine hK _ _ (fun hn => absurd (by decide) hn) (fun hnx => ?_)
  clear hK K hnx
  try simp only [Act.put, List.setIfInBounds_toArray, List.set_cons_zero, List.set_cons_succ]
  refine Ht.stepS (i := 28) ⟨none, _, _, _, _, _⟩ rfl (by kernel_rfl) (by rfl) (fun K hK => ?_)
  go_simp
  refine hK _ _ (fun hn => absurd (by decide) hn) (fun hnx => ?_)
  clear hK K hnx
  try simp only [Act.put, List.setIfInBounds_toArray, List.set_cons_zero, List.set_cons_succ]
  refine Ht.stepS (i := 29) ⟨some 60, _, _, _, _, _⟩ rfl (by kernel_rfl) (by rfl) (fun K hK => ?_)
  go_simp
  refine hK _ _ (fun hn => absurd (by decide) hn) (fun hnx => ?_)
  clear hK K hnx
  try simp only [Act.put, List.setIfInBounds_toArray, List.set_cons_zero, List.set_cons_succ]
  refine Ht.stepS (i := 30) ⟨some 61, _, _, _, _, _⟩ rfl (by kernel_rfl) (by rfl) (fun K hK => ?_)
  go_simp
  refine hK _ _ (fun hn => absurd (by decide) hn) (fun hnx => ?_)
  clear hK K hnx
  try simp only [Act.put, List.setIfInBounds_toArray, List.set_cons_zero, List.set_cons_succ]
  refine Ht.stepS (i := 31) ⟨none, _, _, _, _, _⟩ rfl (by kernel_rfl) (by rfl) (fun K hK => ?_)
  go_simp
  refine hK _ _ (fun hn => absurd (by decide) hn) (fun hnx => ?_)
  clear hK K hnx
  try simp only [Act.put, List.setIfInBounds_toArray, List.set_cons_zero, List.set_cons_succ]
  refine doneS (by kernel_rfl) ?_
  go_wp2_with fail
  go_end0
  obtain ⟨h, hB, hM, hSg, hSb, hgb, hbb, hgm⟩ := HH.out
  obtain ⟨hpl, hBV, hgr, hobj, hg2, hM3, hg3⟩ := HV.out
  have gg : V3.heap[g]? = V.heap[g]? := (hg3.block g (Nat.lt_of_lt_of_le hBV.lt hg2.size) (fun e => hgm (Option.some.inj e))).trans (hg2.block g hBV.lt (fun e => hgm (Option.some.inj e)))
  have hbs : hb < V.heap.size := Nat.lt_of_lt_of_le (h.size hb h.own) hgr.size
  have gh : V3.heap[hb]? = V.heap[hb]? := (hg3.block hb (Nat.lt_of_lt_of_le hbs hg2.size) (fun e => hbb (Option.some.inj e).symm)).trans (hg2.block hb hbs (fun e => hbb (Option.some.inj e).symm))
  rw [← mf_upd, ← mf_upd] at hM3
  have hfr : Fr S w V3 := ((Fr.grown hgr (.inl hSg)).trans (Fr.grown (S := S) (w := V) (w' := V2) ⟨hg2.os, hg2.tape, hg2.output, hg2.size, hg2.block⟩ (.inl hSb)) (fun x hx => .inl hx)).trans (Fr.grown (S := S) hg3 (.inl hSb)) (fun x hx => .inl hx)
  refine ⟨rfl, ⟨_, ⟨(gh.trans hobj).trans h.obj, .inr ⟨g, cap, by rw [len_sw], hBV.kept gg⟩, .inr ⟨b, rfl, by rw [len_sw]; exact hM3⟩, hpl, fun x hx => h.keys x ((sw_perm l HL.out.2.2.2.2.2.1 HL.out.2.2.2.2.2.2.1).mem_iff.1 hx), h.own, h.ownI, h.ownM, fun k hk => Nat.lt_of_lt_of_le (h.size k hk) hfr.size⟩⟩, hfr⟩

end
end Go.Proofs.YtcodjknhnhdkfaaGreatDoor.HpE
namespace Go.Proofs.YtcodjknhnhdkfaaGreatDoor.HpE
open Go.RowKit Go.Lib Go.Sort Hp
set_option linter.unusedVariables false

theorem infoE : (Tryz.prog.info? 176).map (fun i => (i.zero, i.size, i.bytes)) = some (some (.agg #[.string ⟨#[]⟩, .int .u64 0]), 2, 24) := by kernel_rfl
/-- all cells of items, in a row -/
def cs : List (K × Int) → List Value
  | [] => []
  | x :: l => ek x.1 :: er x.2 :: cs l
theorem cs_len : ∀ l : List (K × Int), (cs l).length = l.length * 2
  | [] => rfl
  | x :: l => by simp [cs, cs_len l]; omega
theorem cs_app : ∀ l m : List (K × Int), cs (l ++ m) = cs l ++ cs m
  | [], m => rfl
  | x :: l, m => by simp [cs, cs_app l m]
theorem el_zero (x : K × Int) (l : List (K × Int)) : el (x :: l) 0 = x := rfl
theorem el_succ (x : K × Int) (l : List (K × Int)) (i : Nat) : el (x :: l) (i + 1) = el l i := rfl
theorem cs_get : ∀ (l : List (K × Int)) (i : Nat), i < l.length → (cs l)[i * 2]? = some (ek (el l i).1) ∧ (cs l)[i * 2 + 1]? = some (er (el l i).2)
  | [], _, h => by simp at h
  | x :: l, 0, _ => by simp [cs, el_zero]
  | x :: l, i + 1, h => by
    have ih := cs_get l i (by simpa using h)
    rw [el_succ, show (i + 1) * 2 = i * 2 + 1 + 1 by omega]
    simpa [cs] using ih
theorem cs_one (l : List (K × Int)) : ∀ u ∈ cs l, u.oneCell' = true := by
  induction l with
  | nil => intro u h; simp [cs] at h
  | cons x l ih =>
    intro u h
    simp only [cs, List.mem_cons] at h
    rcases h with rfl | rfl | h
    · rfl
    · rfl
    · exact ih u h
theorem ext_cs {xs : List Value} {l : List (K × Int)} (hl : xs.length = l.length * 2) (h : ∀ i, i < l.length → xs[i * 2]? = some (ek (el l i).1) ∧ xs[i * 2 + 1]? = some (er (el l i).2)) : xs = cs l := by
  refine List.ext_getElem? fun j => ?_
  by_cases hj : j < l.length * 2
  · have h1 := h (j / 2) (by omega)
    have h2 := cs_get l (j / 2) (by omega)
    rcases Nat.mod_two_eq_zero_or_one j with e | e
    · rw [show j = j / 2 * 2 by omega, h1.1, h2.1]
    · rw [show j = j / 2 * 2 + 1 by omega, h1.2, h2.2]
  · rw [List.getElem?_eq_none (by omega), List.getElem?_eq_none (by rw [cs_len]; omega)]
theorem Blk.own {w : World} {g cap : Nat} {l : List (K × Int)} (h : Blk w g cap l) {B : Nat} (hB : B ≤ g) : w.ownsRow B 176 2 (.slice (some ⟨g, 0, none⟩) l.length cap) l.length (cs l) := by
  obtain ⟨cur, h1, h2, h3⟩ := h.here
  have hf := h.fits
  refine ⟨cs_len l, .inr ⟨g, cap, cur, rfl, hB, h1, h.fits, h.cap, h2, ext_cs (by simp; omega) fun i hi => ?_⟩⟩
  rw [List.getElem?_take_of_lt (by omega), List.getElem?_take_of_lt (by omega), Array.getElem?_toList, Array.getElem?_toList]
  exact h3 i hi
theorem row_of_own {w : World} {v : Value} {l : List (K × Int)} {B : Nat} (h : w.ownsRow B 176 2 v l.length (cs l)) : Row w v l := by
  rcases h.2 with ⟨rfl, h0⟩ | ⟨g, cap, cur, rfl, hB, h1, hf, hc, h2, h3⟩
  · exact .inl ⟨List.eq_nil_of_length_eq_zero h0, none, rfl⟩
  · refine .inr ⟨g, cap, rfl, ⟨cur, h1, h2, fun i hi => ?_⟩, hf, hc⟩
    have hg := cs_get l i hi
    rw [← h3, List.getElem?_take_of_lt (by omega), List.getElem?_take_of_lt (by omega), Array.getElem?_toList, Array.getElem?_toList] at hg
    exact hg
theorem blk_own {v : Value} {b : Nat} (h : blk v = some b) : v.ownBlock = some b ∨ v = .map (some b) := by
  cases v <;> simp [blk] at h
  · rename_i p n c
    rcases p with _ | a
    · simp at h
    · cases c <;> simp at h
      exact .inl (by simp [Value.ownBlock, h])
  · subst h; exact .inr rfl
theorem own_shape {w : World} {B : Nat} {e : TypeId} {k : Nat} {v : Value} {n : Nat} {xs : List Value} (h : w.ownsRow B e k v n xs) : ∃ ao cp, v = .slice ao n cp := by
  rcases h.2 with ⟨rfl, rfl⟩ | ⟨g, cap, cur, rfl, _⟩
  · exact ⟨none, 0, rfl⟩
  · exact ⟨_, cap, rfl⟩
/-- 'append(row, item)' -/
theorem row_append (w : World) {iv : Value} {l : List (K × Int)} (h : Row w iv l) (hn : l.length ≤ 1000000) (x : K × Int) (a : Addr) (c : Nat)
    (hx : ∀ j u, (cs [x])[j]? = some u → w.cell? (a.add j) = some u) (ty : TypeId) :
    ∃ ao cp w', (Builtin.append_ #[171, 171] ty #[iv, .slice (some a) 1 c]).run Tryz.prog w = .ok (.slice ao (l.length + 1) cp) w' ∧ Row w' (.slice ao (l.length + 1) cp) (l ++ [x]) ∧ w.grownBy w' (blk iv) ∧
      (∀ b, blk (.slice ao (l.length + 1) cp) = some b → blk iv = some b ∨ w.heap.size ≤ b) := by
  obtain ⟨i0, hi, hz0, hz1, hz2⟩ := info_parts infoE
  have hle : (l ++ [x]).length = l.length + 1 := by simp
  have key : ∀ p, ∃ ao cp w', (Builtin.append_ #[171, 171] ty #[.slice p 0 0, .slice (some a) 1 c]).run Tryz.prog w = .ok (.slice ao (0 + 1) cp) w' ∧ Row w' (.slice ao (0 + 1) cp) ([] ++ [x]) ∧ w.grownBy w' none ∧ ∀ b, blk (.slice ao (0 + 1) cp) = some b → w.heap.size ≤ b := by
    intro p
    obtain ⟨v2, w2, hr2, o2, hg, _⟩ := run_append_own (P := Tryz.prog) w w.heap.size 171 ty 176 i0 _ 2 24 Tryz.underlying171 hi hz0 hz1 hz2 rfl (by decide) _ 0 [] (World.ownsRow_nil w w.heap.size 176 2) a 1 c (cs [x]) rfl hx (cs_one [x]) (by unfold maxLen; omega) (by omega) (Nat.le_refl _)
    obtain ⟨ao, cp, rfl⟩ := own_shape o2
    refine ⟨ao, cp, w2, ?_, row_of_own (B := w.heap.size) (by simpa using o2), hg, fun b hb => ?_⟩
    · rw [← hr2]
      have e1 := run_append_nil (P := Tryz.prog) w 171 ty 176 i0 _ Tryz.underlying171 hi hz0 a 1 c (cs [x]) (by rw [hz1]; rfl) hx (by decide) (by decide) (by rw [hz2]; decide)
      rcases p with _ | p
      · rfl
      · rw [e1]
        have e2 := run_append_grow (P := Tryz.prog) w 171 ty 176 i0 _ Tryz.underlying171 hi hz0 p 0 0 [] (by simp) (by simp) a 1 c (cs [x]) (by rw [hz1]; rfl) hx (by decide) (by decide) (by rw [hz2]; decide)
        rw [e2]
        simp
    · rcases blk_own hb with h1 | h1
      · exact (o2.lt b h1).1
      · cases h1
  rcases h with ⟨rfl, p, rfl⟩ | ⟨g, cap, rfl, hB⟩
  · obtain ⟨ao, cp, w2, h1, h2, h3, h4⟩ := key p
    exact ⟨ao, cp, w2, h1, h2, ⟨h3.os, h3.tape, h3.output, h3.size, fun k hk _ => h3.block k hk (by simp)⟩, fun b hb => .inr (h4 b hb)⟩
  · by_cases hc : cap = 0
    · subst hc
      have := hB.fits
      obtain rfl : l = [] := List.eq_nil_of_length_eq_zero (by omega)
      obtain ⟨ao, cp, w2, h1, h2, h3, h4⟩ := key (some ⟨g, 0, none⟩)
      exact ⟨ao, cp, w2, h1, h2, ⟨h3.os, h3.tape, h3.output, h3.size, fun k hk _ => h3.block k hk (by simp)⟩, fun b hb => .inr (h4 b hb)⟩
    · obtain ⟨v2, w2, hr2, o2, hg, hn2⟩ := Ao.run_append_own_new (P := Tryz.prog) w 0 171 ty 176 i0 _ 2 24 Tryz.underlying171 hi hz0 hz1 hz2 rfl (by decide) _ l.length (cs l) (hB.own (Nat.zero_le g)) a 1 c (cs [x]) rfl hx (cs_one [x]) (by unfold maxLen; omega) (by omega) (Nat.zero_le _)
      obtain ⟨ao, cp, rfl⟩ := own_shape o2
      have hbl : blk (.slice (some ⟨g, 0, none⟩) l.length cap) = some g := by
        obtain ⟨c, rfl⟩ : ∃ c, cap = c + 1 := ⟨cap - 1, by omega⟩
        rfl
      refine ⟨ao, cp, w2, hr2, ?_, by rw [hbl]; exact hg, fun b hb => ?_⟩
      · have : Row w2 (.slice ao (l ++ [x]).length cp) (l ++ [x]) := row_of_own (B := 0) (by rw [hle, cs_app]; exact o2)
        rw [hle] at this
        exact this
      · rw [hbl]
        rcases blk_own hb with h1 | h1
        · rcases hn2 with h2 | ⟨g2, h2, h3⟩
          · rw [h1] at h2; exact .inl h2.symm
          · rw [h1] at h2; obtain rfl := Option.some.inj h2; exact .inr h3
        · cases h1
end Go.Proofs.YtcodjknhnhdkfaaGreatDoor.HpE
namespace Go.Proofs.YtcodjknhnhdkfaaGreatDoor.HpE
open Go.RowKit Go.Lib Go.Sort Hp
set_option linter.unusedVariables false
set_option maxRecDepth 20000
section
variable {S : Nat → Prop} {w : World} {hb : Nat} {iv mv : Value} {l : List (K × Int)} {f : K → Option Nat}
theorem Hq.old {Y : World} (h : Hq S w hb iv mv l f) (e : Below w.heap.size w Y) : Hq S Y hb iv mv l f := h.kept e.size fun k hk => e.block k (h.size k hk)
/-- settled all but for a place -/
structure Sx (S : Nat → Prop) (w : World) (hb : Nat) (iv mv : Value) (l : List (K × Int)) (wr : World) (l' : List (K × Int)) : Prop where
  hq : ∃ f', Hq S wr hb iv mv l' f'
  perm : l'.Perm l
  fr : Fr S w wr
theorem Sx.len {wr : World} {l' : List (K × Int)} (h : Sx S w hb iv mv l wr l') : l'.length = l.length := h.perm.length_eq
theorem Sx.old {wr Y : World} {l' : List (K × Int)} (h : Sx S w hb iv mv l wr l') (e : Below wr.heap.size wr Y) : Sx S w hb iv mv l Y l' :=
  ⟨h.hq.elim fun f' hf => ⟨f', hf.old e⟩, h.perm, h.fr.trans (Fr.of_below (S := S) e) fun x hx => .inl hx⟩
theorem Sx.ahead {wr : World} {l' : List (K × Int)} (h : Sx S w hb iv mv l wr l') {i j : Nat} (hi : i < l.length) (hj : j < l.length) (hn : l.length ≤ 1000000) :
    Calls Tryz.prog 128 #[.pointer (some ⟨hb, 0, none⟩), .int .i64 ((i : Nat) : Int), .int .i64 ((j : Nat) : Int)] wr fun e w' => e = .returned (.bool (ltp (el l' i) (el l' j))) ∧ Sx S w hb iv mv l w' l' := by
  obtain ⟨f', hf⟩ := h.hq
  refine (ahead_any hf (by rw [h.len]; exact hi) (by rw [h.len]; exact hj) (by rw [h.len]; exact hn)).mono ?_
  rintro e w1 ⟨rfl, hb1⟩
  exact ⟨rfl, h.old hb1⟩
theorem Sx.below {wr : World} {l' : List (K × Int)} (h : Sx S w hb iv mv l wr l') {i : Nat} (hi : i < l.length) (hn : l.length ≤ 1000000) :
    Calls Tryz.prog 131 #[.pointer (some ⟨hb, 0, none⟩), .int .i64 ((i : Nat) : Int)] wr fun e w' => e = .returned (.int .i64 ((kid ltp l' i : Nat) : Int)) ∧ Sx S w hb iv mv l w' l' := by
  obtain ⟨f', hf⟩ := h.hq
  refine (below_any hf (by rw [h.len]; exact hi) (by rw [h.len]; exact hn)).mono ?_
  rintro e w1 ⟨rfl, hb1⟩
  exact ⟨rfl, h.old hb1⟩
theorem Sx.swap {wr : World} {l' : List (K × Int)} (h : Sx S w hb iv mv l wr l') {i j : Nat} (hi : i < l.length) (hj : j < l.length) (hn : l.length ≤ 1000000) :
    Calls Tryz.prog 130 #[.pointer (some ⟨hb, 0, none⟩), .int .i64 ((i : Nat) : Int), .int .i64 ((j : Nat) : Int)] wr fun e w' => e = .returned (.tuple #[]) ∧ Sx S w hb iv mv l w' (sw l' i j) := by
  obtain ⟨f', hf⟩ := h.hq
  refine (swap_any hf (by rw [h.len]; exact hi) (by rw [h.len]; exact hj) (by rw [h.len]; exact hn)).mono ?_
  rintro e w1 ⟨rfl, h1, h2⟩
  exact ⟨rfl, h1, (sw_perm l' (by rw [h.len]; exact hi) (by rw [h.len]; exact hj)).trans h.perm, h.fr.trans h2 fun x hx => .inl hx⟩
theorem Sx.shape {wr : World} {l' : List (K × Int)} (h : Sx S w hb iv mv l wr l') : ∃ a cap, iv = .slice a l.length cap ∧ l.length ≤ cap ∧ wr.cell? ⟨hb, 0, none⟩ = some iv := by
  obtain ⟨f', hf⟩ := h.hq
  obtain ⟨a, cap, h1, h2⟩ := hf.shape
  rw [h.len] at h1 h2
  exact ⟨a, cap, h1, h2, hf.items⟩
set_option maxHeartbeats 1000000 in
theorem settle_any (h : Hq S w hb iv mv l f) {i : Nat} (hi : i < l.length) (hn : l.length ≤ 1000000) (ho : Okx ltp i l) :
    Calls Tryz.prog 107 #[.pointer (some ⟨hb, 0, none⟩), .int .i64 ((i : Nat) : Int)] w fun e w' => e = .returned (.tuple #[]) ∧ ∃ l', Sx S w hb iv mv l w' l' ∧ Hpd ltp l' := by
  have HQ := Lib.hid (And.intro (⟨⟨f, h⟩, List.Perm.refl _, Fr.refl S w⟩ : Sx S w hb iv mv l w l) ho)
  have HN := Lib.hid (And.intro hn hi)
  clear h ho hn hi
  go_enter Tryz.func107, Tryz.ntmps107
  go_wp2_with fail
  go_loopw [1] (fun i wr => ∃ (k : Nat) (q : List (K × Int)), i = .int .i64 ((k : Nat) : Int) ∧ Sx S w hb iv mv l wr q ∧ Okx ltp k q ∧ k < l.length) (fun i _ => (RowKit.intOf i).toNat)
  case atStart => exact ⟨i, l, rfl, HQ.out.1, HQ.out.2, HN.out.2⟩
  case round =>
    obtain ⟨k, q, rfl, hsx, hok, hk⟩ := hrel
    clear HQ
    by_cases h0 : 0 < k
    · have hU := fun W => above_any k W h0 (by have := HN.out.1; omega)
      have hA := hsx.ahead (i := k) (j := par k) hk (by have := par_lt h0; omega) HN.out.1
      have HR := Lib.hid (And.intro hsx (And.intro hok (And.intro hk h0)))
      obtain ⟨t, ht⟩ : ∃ t, t = ltp (el q k) (el q (par k)) := ⟨_, rfl⟩
      rw [← ht] at hA
      have HT := Lib.hid ht
      have HU := Lib.hid hU
      have h0x : (0 : Int) < ((k : Nat) : Int) := by omega
      clear hsx hok hk ht hU h0
      go_wp2_with fail
      refine (HU.out _).mono ?_
      rintro e w2 ⟨rfl, rfl⟩
      go_wp2_with fail
      refine hA.mono ?_
      rintro e w3 ⟨rfl, h3⟩
      clear hA
      cases t with
      | true =>
        have hS3 := h3.swap (i := k) (j := par k) HR.out.2.2.1 (by have := par_lt HR.out.2.2.2; have := HR.out.2.2.1; omega) HN.out.1
        have H3 := Lib.hid (And.intro h3 hS3)
        clear h3 hS3
        go_wp2_with fail
        refine (HU.out _).mono ?_
        rintro e w4 ⟨rfl, rfl⟩
        go_wp2_with fail
        refine H3.out.2.mono ?_
        rintro e w5 ⟨rfl, h5⟩
        have ho5 : Okx ltp (par k) (sw q k (par k)) := HR.out.2.1.up (swo Hp.tot_str) HR.out.2.2.2 (by rw [H3.out.1.len]; exact HR.out.2.2.1) HT.out.symm
        have H5 := Lib.hid (And.intro h5 ho5)
        clear h5 ho5 H3
        go_wp2_with fail
        refine (HU.out _).mono ?_
        rintro e w6 ⟨rfl, rfl⟩
        go_wp2_with fail
        exact ⟨⟨_, _, rfl, H5.out.1, H5.out.2, by have := par_lt HR.out.2.2.2; have := HR.out.2.2.1; omega⟩, by have := par_lt HR.out.2.2.2; simp [RowKit.intOf]; omega⟩
      | false =>
        have HX := Lib.hid (And.intro h3 (And.intro (HR.out.2.1.dn (.inr HT.out.symm)) (And.intro HR.out.2.2.1 True.intro)))
        clear h3 HR HT HU
        go_wp2_with fail
        refine (HX.out.1.below HX.out.2.2.1 HN.out.1).mono ?_
        rintro e w2 ⟨rfl, h2⟩
        have H2 := Lib.hid (And.intro h2 (And.intro HX.out.2.1 HX.out.2.2.1))
        clear h2 HX
        obtain ⟨m0, hm0⟩ : ∃ m, m = kid ltp q k := ⟨_, rfl⟩
        rw [← hm0]
        have HM0 := Lib.hid hm0
        clear hm0
        go_wp2_with fail
        go_loopw [1, 4] (fun i j wr => ∃ (k : Nat) (m : Nat) (q : List (K × Int)), i = .int .i64 ((k : Nat) : Int) ∧ j = .int .i64 ((m : Nat) : Int) ∧ m = kid ltp q k ∧ Sx S w hb iv mv l wr q ∧ Dn ltp k q ∧ k < l.length) (fun i _ _ => l.length - (RowKit.intOf i).toNat)
        case atStart => exact ⟨_, _, _, rfl, rfl, HM0.out, H2.out.1, H2.out.2.1, H2.out.2.2⟩
        case round =>
          obtain ⟨k, m, q, rfl, rfl, hm, hsx, hdn, hk⟩ := hrel
          obtain ⟨a, cap, hiv, hcap, hcell⟩ := hsx.shape
          rw [hiv] at hcell
          have hkm : k < m := by rw [hm]; exact kid_gt q k
          by_cases hlt : m < l.length
          · have hA := hsx.ahead hlt hk HN.out.1
            have HR := Lib.hid (And.intro hm (And.intro hsx (And.intro hdn (And.intro hk (And.intro hiv (And.intro hkm hlt))))))
            obtain ⟨t, ht⟩ : ∃ t, t = ltp (el q m) (el q k) := ⟨_, rfl⟩
            rw [← ht] at hA
            have HT := Lib.hid ht
            obtain ⟨n, hln⟩ : ∃ n, n = l.length := ⟨_, rfl⟩
            rw [← hln] at hcell hcap hlt
            have HLN := Lib.hid hln
            have hltx : ((m : Nat) : Int) < ((n : Nat) : Int) := by omega
            clear hm hsx hdn hk hiv ht hln hkm hlt
            go_wp2_with fail
            refine hA.mono ?_
            rintro e w3 ⟨rfl, h3⟩
            have hS3 := h3.swap (i := k) (j := m) HR.out.2.2.2.1 HR.out.2.2.2.2.2.2 HN.out.1
            have H3 := Lib.hid h3
            clear hA h3 hcell
            cases t with
            | true =>
              have HS3 := Lib.hid hS3
              clear hS3
              go_wp2_with fail
              refine HS3.out.mono ?_
              rintro e w4 ⟨rfl, h4⟩
              have hd4 : Dn ltp m (sw q k m) := by
                have hm := HR.out.1
                rw [hm]
                exact HR.out.2.2.1.down (swo Hp.tot_str) (by rw [← hm, H3.out.len]; exact HR.out.2.2.2.2.2.2) (by rw [← hm]; exact HT.out.symm)
              have hB4 := h4.below (i := m) HR.out.2.2.2.2.2.2 HN.out.1
              have H4 := Lib.hid hd4
              clear h4 hd4
              go_wp2_with fail
              refine hB4.mono ?_
              rintro e w5 ⟨rfl, h5⟩
              clear hB4
              have H5 := Lib.hid h5
              clear h5
              obtain ⟨m5, hm5⟩ : ∃ x, x = kid ltp (sw q k m) m := ⟨_, rfl⟩
              rw [← hm5]
              have HM5 := Lib.hid hm5
              clear hm5
              go_wp2_with fail
              exact ⟨⟨_, _, _, rfl, rfl, HM5.out, H5.out, H4.out, HR.out.2.2.2.2.2.2⟩, by have := HR.out.2.2.2.2.2; simp [RowKit.intOf]; omega⟩
            | false =>
              clear hS3
              go_wp2_with fail
              go_end0
              exact ⟨rfl, q, H3.out, HR.out.2.2.1.stop (swo Hp.tot_str) (.inr (by rw [← HR.out.1]; exact HT.out.symm))⟩
          · have HR := Lib.hid (And.intro hm (And.intro hsx (And.intro hdn (And.intro hk (And.intro hiv hlt)))))
            obtain ⟨n, hln⟩ : ∃ n, n = l.length := ⟨_, rfl⟩
            rw [← hln] at hcell hcap hlt
            have hltx : ((n : Nat) : Int) ≤ ((m : Nat) : Int) := by omega
            clear hm hsx hdn hk hiv hln hkm hlt
            go_wp2_with fail
            go_end0
            exact ⟨rfl, q, HR.out.2.1, HR.out.2.2.1.stop (swo Hp.tot_str) (.inl (by rw [← HR.out.1, HR.out.2.1.len]; have := HR.out.2.2.2.2.2; omega))⟩
    · have hk0 : k = 0 := by omega
      have HX := Lib.hid (And.intro hsx (And.intro (hok.dn (.inl hk0)) (And.intro hk True.intro)))
      have h0x : ((k : Nat) : Int) ≤ (0 : Int) := by omega
      clear hsx hok hk h0 hk0
      go_wp2_with fail
      refine (HX.out.1.below HX.out.2.2.1 HN.out.1).mono ?_
      rintro e w2 ⟨rfl, h2⟩
      have H2 := Lib.hid (And.intro h2 (And.intro HX.out.2.1 HX.out.2.2.1))
      clear h2 HX
      obtain ⟨m0, hm0⟩ : ∃ m, m = kid ltp q k := ⟨_, rfl⟩
      rw [← hm0]
      have HM0 := Lib.hid hm0
      clear hm0
      go_wp2_with fail
      go_loopw [1, 4] (fun i j wr => ∃ (k : Nat) (m : Nat) (q : List (K × Int)), i = .int .i64 ((k : Nat) : Int) ∧ j = .int .i64 ((m : Nat) : Int) ∧ m = kid ltp q k ∧ Sx S w hb iv mv l wr q ∧ Dn ltp k q ∧ k < l.length) (fun i _ _ => l.length - (RowKit.intOf i).toNat)
      case atStart => exact ⟨_, _, _, rfl, rfl, HM0.out, H2.out.1, H2.out.2.1, H2.out.2.2⟩
      case round =>
        obtain ⟨k, m, q, rfl, rfl, hm, hsx, hdn, hk⟩ := hrel
        obtain ⟨a, cap, hiv, hcap, hcell⟩ := hsx.shape
        rw [hiv] at hcell
        have hkm : k < m := by rw [hm]; exact kid_gt q k
        by_cases hlt : m < l.length
        · have hA := hsx.ahead hlt hk HN.out.1
          have HR := Lib.hid (And.intro hm (And.intro hsx (And.intro hdn (And.intro hk (And.intro hiv (And.intro hkm hlt))))))
          obtain ⟨t, ht⟩ : ∃ t, t = ltp (el q m) (el q k) := ⟨_, rfl⟩
          rw [← ht] at hA
          have HT := Lib.hid ht
          obtain ⟨n, hln⟩ : ∃ n, n = l.length := ⟨_, rfl⟩
          rw [← hln] at hcell hcap hlt
          have HLN := Lib.hid hln
          have hltx : ((m : Nat) : Int) < ((n : Nat) : Int) := by omega
          clear hm hsx hdn hk hiv ht hln hkm hlt
          go_wp2_with fail
          refine hA.mono ?_
          rintro e w3 ⟨rfl, h3⟩
          have hS3 := h3.swap (i := k) (j := m) HR.out.2.2.2.1 HR.out.2.2.2.2.2.2 HN.out.1
          have H3 := Lib.hid h3
          clear hA h3 hcell
          cases t with
          | true =>
            have HS3 := Lib.hid hS3
            clear hS3
            go_wp2_with fail
            refine HS3.out.mono ?_
            rintro e w4 ⟨rfl, h4⟩
            have hd4 : Dn ltp m (sw q k m) := by
              have hm := HR.out.1
              rw [hm]
              exact HR.out.2.2.1.down (swo Hp.tot_str) (by rw [← hm, H3.out.len]; exact HR.out.2.2.2.2.2.2) (by rw [← hm]; exact HT.out.symm)
            have hB4 := h4.below (i := m) HR.out.2.2.2.2.2.2 HN.out.1
            have H4 := Lib.hid hd4
            clear h4 hd4
            go_wp2_with fail
            refine hB4.mono ?_
            rintro e w5 ⟨rfl, h5⟩
            clear hB4
            have H5 := Lib.hid h5
            clear h5
            obtain ⟨m5, hm5⟩ : ∃ x, x = kid ltp (sw q k m) m := ⟨_, rfl⟩
            rw [← hm5]
            have HM5 := Lib.hid hm5
            clear hm5
            go_wp2_with fail
            exact ⟨⟨_, _, _, rfl, rfl, HM5.out, H5.out, H4.out, HR.out.2.2.2.2.2.2⟩, by have := HR.out.2.2.2.2.2; simp [RowKit.intOf]; omega⟩
          | false =>
            clear hS3
            go_wp2_with fail
            go_end0
            exact ⟨rfl, q, H3.out, HR.out.2.2.1.stop (swo Hp.tot_str) (.inr (by rw [← HR.out.1]; exact HT.out.symm))⟩
        · have HR := Lib.hid (And.intro hm (And.intro hsx (And.intro hdn (And.intro hk (And.intro hiv hlt)))))
          obtain ⟨n, hln⟩ : ∃ n, n = l.length := ⟨_, rfl⟩
          rw [← hln] at hcell hcap hlt
          have hltx : ((n : Nat) : Int) ≤ ((m : Nat) : Int) := by omega
          clear hm hsx hdn hk hiv hln hkm hlt
          go_wp2_with fail
          go_end0
          exact ⟨rfl, q, HR.out.2.1, HR.out.2.2.1.stop (swo Hp.tot_str) (.inl (by rw [← HR.out.1, HR.out.2.1.len]; have := HR.out.2.2.2.2.2; omega))⟩
end
end Go.Proofs.YtcodjknhnhdkfaaGreatDoor.HpE
