/- quotas: maps of texts to integers, told by a function -/
import Derived.Test.YtcodjknhnhdkfaaGreatDoorBr17
import Derived.Test.YtcodjknhnhdkfaaGreatDoorBrHs
import Derived.Test.YtcodjknhnhdkfaaGreatDoorAo
import Derived.Sort.KeysCollected
import Derived.Lib.Hide
import Derived.OwnWalk
import Derived.Deep.QuietTactic
import Derived.BigQuiet
import Derived.StillTailTactics
import Derived.Deep.RegionWith
import Derived.WalkSpells
import Derived.Shelf.SlMaps.Clone
namespace Go.Proofs.YtcodjknhnhdkfaaGreatDoor.Qt
open Go.RowKit Go.Lib Go.Maps Go.WideElems Go.ChangeMaps Go.MapKept Hp
set_option linter.unusedVariables false
set_option linter.unusedSectionVars false
set_option maxRecDepth 20000

abbrev K := List UInt8
def ek (k : K) : Value := .string ⟨k.toArray⟩
def er (n : Int) : Value := .int .i64 n
def wk (k : K) : Prop := k.length ≤ maxLen
theorem kind : Mv.Kind Tryz.prog 101 9 3 (er 0) ek wk where
  map := Tryz.underlying101
  zero w := by unfold er; go_simp
  keyed := Maps.string_keyed Tryz.underlying9
  key k hk := ⟨_, Hp.keyOf_str Tryz.underlying9 hk⟩
  inj k k' h := by simpa [ek] using h
  back v l h := by obtain ⟨x, e, _, h2⟩ := Maps.keyOf_str Tryz.underlying9 h; exact ⟨x, e, h2⟩
def vf (f : K → Option Int) : K → Option Value := fun k => (f k).map er
abbrev Mq (w : World) (b n : Nat) (f : K → Option Int) : Prop := Mv.Mp Tryz.prog 9 ek wk w b n (vf f)
theorem vf_some (f : K → Option Int) (k : K) : (vf f k).isSome = (f k).isSome := by unfold vf; cases f k <;> rfl
theorem vf_get (f : K → Option Int) (k : K) : (vf f k).getD (er 0) = er ((f k).getD 0) := by unfold vf; cases f k <;> rfl
theorem vf_upd (f : K → Option Int) (k : K) (x : Int) : Mv.upd (vf f) k (er x) = vf (Hp.upd f k x) := by
  funext k'
  unfold Mv.upd Hp.upd vf
  by_cases e : k' = k
  · rw [if_pos e]; simp [e]
  · rw [if_neg e]; simp [e]
section
variable {P : Program} {t tk te : TypeId} {z : Value} {K : Type} [DecidableEq K] {ek : K → Value} {wk : K → Prop}
/-- an entry is struck -/
theorem mp_drop (κ : Mv.Kind P t tk te z ek wk) {w : World} {b n : Nat} {f : K → Option Value} (h : Mv.Mp P tk ek wk w b n f) {k : K} (hk : wk k) (hf : (f k).isSome = true) (ty : TypeId) :
    ∃ w2, (Builtin.delete_ #[t, tk] ty #[.map (some b), ek k]).run P w = .ok (.tuple #[]) w2 ∧ Mv.Mp P tk ek wk w2 b (n - 1) (fun k' => if k' = k then none else f k') ∧ w.grownBy w2 (some b) := by
  obtain ⟨D, hm, hsz, hD⟩ := h
  obtain ⟨w2, hr, hm2, es, clock, es2, clock2, hb, rfl⟩ := hm.drop κ.keyed κ.map (κ.at hk) ty
  have hs := Maps.size_del (k := Mv.kl P tk ek k) (hm.tidy κ.keyed)
  rw [Mv.has_of κ (hD k hk), hf, if_pos rfl] at hs
  have hs2 : Maps.size (D.del (Mv.kl P tk ek k)) = n - 1 := by omega
  refine ⟨_, hr, ⟨_, ?_, hs2, fun k' hk' z => ?_⟩, ⟨rfl, rfl, rfl, by simp [ChangeMaps.setBlock], fun i _ hi => heap_setBlock_other hb _ (fun e => hi (by rw [e]))⟩⟩
  · obtain ⟨es3, clock3, hb3, F3, hs3, e3⟩ := hm2
    exact ⟨es3, clock3, hb3, F3, by rw [← hs2, e3]; simp [Maps.size, length_sorted], e3⟩
  · dsimp only
    by_cases e : k' = k
    · rw [if_pos e, e, Maps.atKey_del_same]
    · rw [if_neg e, Maps.atKey_del_other (fun e2 => e (κ.kinj hk' hk e2)), hD k' hk' z]
end
variable {w : World} {b n : Nat} {f : K → Option Int}
theorem look (h : Mq w b n f) {Y : World} (e : Y.heap[b]? = w.heap[b]?) {k : K} (hk : wk k) :
    (Instr.lookup 101 (.map (some b)) (.string ⟨k.toArray⟩) true).run Tryz.prog Y = .ok (.tuple #[.int .i64 ((f k).getD 0), .bool (f k).isSome]) Y := by
  have := Mv.Mp.look kind h e hk
  rw [vf_some, vf_get] at this
  exact this
theorem look1 (h : Mq w b n f) {Y : World} (e : Y.heap[b]? = w.heap[b]?) {k : K} (hk : wk k) :
    (Instr.lookup 101 (.map (some b)) (.string ⟨k.toArray⟩) false).run Tryz.prog Y = .ok (.int .i64 ((f k).getD 0)) Y := by
  have := Mv.Mp.look1 kind h e hk
  rw [vf_get] at this
  exact this
theorem look1_nil (Y : World) {k : K} (hk : wk k) : (Instr.lookup 101 (.map none) (.string ⟨k.toArray⟩) false).run Tryz.prog Y = .ok (.int .i64 0) Y := Mv.look1_nil kind Y hk
theorem look_nil (Y : World) {k : K} (hk : wk k) : (Instr.lookup 101 (.map none) (.string ⟨k.toArray⟩) true).run Tryz.prog Y = .ok (.tuple #[.int .i64 0, .bool false]) Y :=
  Maps.look_nil true kind.keyed kind.map (kind.zero Y) (kind.at hk)
theorem put (h : Mq w b n f) (hn : n < maxLen) {k : K} (hk : wk k) (x : Int) :
    ∃ w2, (Instr.mapUpdate 101 (.map (some b)) (.string ⟨k.toArray⟩) (.int .i64 x)).run Tryz.prog w = .ok () w2 ∧ Mq w2 b (if (f k).isSome then n else n + 1) (Hp.upd f k x) ∧ w.grownBy w2 (some b) ∧ w2.heap.size = w.heap.size := by
  obtain ⟨w2, h1, h2, h3⟩ := Mv.Mp.put kind h hn hk (er x)
  rw [vf_some, vf_upd] at h2
  exact ⟨w2, h1, h2, h3⟩
theorem drop (h : Mq w b n f) {k : K} (hk : wk k) (hf : (f k).isSome = true) (ty : TypeId) :
    ∃ w2, (Builtin.delete_ #[101, 9] ty #[.map (some b), .string ⟨k.toArray⟩]).run Tryz.prog w = .ok (.tuple #[]) w2 ∧ Mq w2 b (n - 1) (Hp.del f k) ∧ w.grownBy w2 (some b) := by
  obtain ⟨w2, h1, h2, h3⟩ := mp_drop kind h hk (by rw [vf_some]; exact hf) ty
  refine ⟨w2, h1, h2.congr fun k' _ => ?_, h3⟩
  unfold vf Hp.del
  by_cases e : k' = k
  · rw [if_pos e]; simp [e]
  · rw [if_neg e]; simp [e]
theorem made (w : World) : Mq (w.alloc (.map #[] 0)) w.heap.size 0 (fun _ => none) := Mv.mp_made w
/-- what a map, or none, holds -/
def Ms (w : World) (ob : Option Nat) (n : Nat) (f : K → Option Int) : Prop := match ob with
  | none => n = 0 ∧ ∀ k, f k = none
  | some b => Mq w b n f
theorem Ms.kept {w Y : World} {ob : Option Nat} {n : Nat} {f : K → Option Int} (h : Ms w ob n f) (e : ∀ b, ob = some b → Y.heap[b]? = w.heap[b]?) : Ms Y ob n f := by
  cases ob with
  | none => exact h
  | some b => exact Mv.Mp.kept h (e b rfl)
theorem Ms.look {w Y : World} {ob : Option Nat} {n : Nat} {f : K → Option Int} (h : Ms w ob n f) (e : ∀ b, ob = some b → Y.heap[b]? = w.heap[b]?) {k : K} (hk : wk k) :
    (Instr.lookup 101 (.map ob) (.string ⟨k.toArray⟩) true).run Tryz.prog Y = .ok (.tuple #[.int .i64 ((f k).getD 0), .bool (f k).isSome]) Y := by
  cases ob with
  | none => rw [h.2 k]; exact look_nil Y hk
  | some b => exact Qt.look h (e b rfl) hk
theorem Ms.look1 {w Y : World} {ob : Option Nat} {n : Nat} {f : K → Option Int} (h : Ms w ob n f) (e : ∀ b, ob = some b → Y.heap[b]? = w.heap[b]?) {k : K} (hk : wk k) :
    (Instr.lookup 101 (.map ob) (.string ⟨k.toArray⟩) false).run Tryz.prog Y = .ok (.int .i64 ((f k).getD 0)) Y := by
  cases ob with
  | none => rw [h.2 k]; exact look1_nil Y hk
  | some b => exact Qt.look1 h (e b rfl) hk
theorem Ms.len {w Y : World} {ob : Option Nat} {n : Nat} {f : K → Option Int} (h : Ms w ob n f) (e : ∀ b, ob = some b → Y.heap[b]? = w.heap[b]?) (ty : TypeId) :
    (Builtin.len_ #[101] ty #[.map ob]).run Tryz.prog Y = .ok (.int .i64 (n : Nat)) Y := by
  cases ob with
  | none => obtain ⟨rfl, _⟩ := h; go_simp
  | some b => exact Mv.Mp.len kind h (e b rfl) ty
theorem Ms.lt {w : World} {b n : Nat} {f : K → Option Int} (h : Ms w (some b) n f) : b < w.heap.size := Mv.Mp.lt h
end Go.Proofs.YtcodjknhnhdkfaaGreatDoor.Qt
namespace Go.Proofs.YtcodjknhnhdkfaaGreatDoor.Qt
open Go.RowKit Go.Lib Go.Maps Go.WideElems Go.ChangeMaps Go.MapKept Hp
set_option linter.unusedVariables false
set_option linter.unusedSectionVars false
set_option maxRecDepth 20000

theorem eql_some (b : Nat) (w : World) : (binOp .eql 101 (.map (some b)) (.map none)).run Tryz.prog w = .ok (.bool false) w := run_eql_map_nil_sl w _ _ _ (some b) Tryz.underlying101
theorem eql_none (w : World) : (binOp .eql 101 (.map none) (.map none)).run Tryz.prog w = .ok (.bool true) w := run_eql_map_nil_sl w _ _ _ none Tryz.underlying101
theorem make_map (w : World) : (Instr.makeMap 101 none).run Tryz.prog w = .ok (.map (some w.heap.size)) (w.alloc (.map #[] 0)) := by kernel_rfl
/-- a ledger as it lies: all blocks of S are its own -/
structure Lq (S : Nat → Prop) (w : World) (lb : Nat) (ea : Int) (mo ho : Option Nat) (nm nh : Nat) (M H : K → Option Int) : Prop where
  row : w.heap[lb]? = some (.cells #[.int .i64 ea, .map mo, .map ho] 103 (0, 0))
  most : Ms w mo nm M
  has : Ms w ho nh H
  own : S lb
  ownM : ∀ b, mo = some b → S b
  ownH : ∀ b, ho = some b → S b
  apart : ∀ b, mo = some b → ho ≠ some b
  size : ∀ k, S k → k < w.heap.size
  okE : 0 ≤ ea ∧ ea ≤ 128
  okM : ∀ k n, M k = some n → 0 ≤ n ∧ n ≤ 128
  okH : ∀ k n, H k = some n → 1 ≤ n ∧ n ≤ 128
/-- how many one may have, and has -/
def may (ea : Int) (M : K → Option Int) (k : K) : Int := (M k).getD ea
def has (H : K → Option Int) (k : K) : Int := (H k).getD 0
section
variable {S : Nat → Prop} {w : World} {lb : Nat} {ea : Int} {mo ho : Option Nat} {nm nh : Nat} {M H : K → Option Int}
theorem Lq.cells (h : Lq S w lb ea mo ho nm nh M H) : w.cell? ⟨lb, 0, none⟩ = some (.int .i64 ea) ∧ w.cell? ⟨lb, 1, none⟩ = some (.map mo) ∧ w.cell? ⟨lb, 2, none⟩ = some (.map ho) := by
  refine ⟨?_, ?_, ?_⟩ <;> (rw [cell_of_row w lb _ _ _ _ h.row]; rfl)
theorem Lq.frozen (h : Lq S w lb ea mo ho nm nh M H) (i : Nat) : w.frozen? ⟨lb, i, none⟩ = false := by simp [World.frozen?, h.row]
theorem Lq.kept {Y : World} (h : Lq S w lb ea mo ho nm nh M H) (hs : w.heap.size ≤ Y.heap.size) (e : ∀ k, S k → Y.heap[k]? = w.heap[k]?) : Lq S Y lb ea mo ho nm nh M H where
  row := (e lb h.own).trans h.row
  most := h.most.kept fun b hb => e b (h.ownM b hb)
  has := h.has.kept fun b hb => e b (h.ownH b hb)
  own := h.own
  ownM := h.ownM
  ownH := h.ownH
  apart := h.apart
  size k hk := Nat.lt_of_lt_of_le (h.size k hk) hs
  okE := h.okE
  okM := h.okM
  okH := h.okH
theorem Lq.below {Y : World} {B : Nat} (h : Lq S w lb ea mo ho nm nh M H) (b : Below B w Y) (hB : w.heap.size ≤ B) : Lq S Y lb ea mo ho nm nh M H :=
  h.kept b.size fun k hk => b.block k (Nat.lt_of_lt_of_le (h.size k hk) hB)
theorem Lq.fr {S' : Nat → Prop} {Y : World} (h : Lq S w lb ea mo ho nm nh M H) (e : Fr S' w Y) (hd : ∀ k, S k → ¬ S' k) : Lq S Y lb ea mo ho nm nh M H :=
  h.kept e.size fun k hk => e.block k (h.size k hk) (hd k hk)
theorem Lq.may_bd (h : Lq S w lb ea mo ho nm nh M H) (k : K) : 0 ≤ may ea M k ∧ may ea M k ≤ 128 := by
  unfold may
  cases e : M k with
  | none => exact h.okE
  | some n => exact h.okM k n e
theorem Lq.has_bd (h : Lq S w lb ea mo ho nm nh M H) (k : K) : 0 ≤ Qt.has H k ∧ Qt.has H k ≤ 128 ∧ (0 < Qt.has H k → (H k).isSome = true) ∧ (Qt.has H k = 0 → H k = none) := by
  unfold Qt.has
  cases e : H k with
  | none => exact ⟨by simp, by simp, fun h => by simp at h, fun _ => rfl⟩
  | some n =>
    have := h.okH k n e
    exact ⟨by simp; omega, by simp; omega, fun _ => rfl, fun h0 => by simp at h0; omega⟩
theorem isCount_any (n : Int) (w : World) : Calls Tryz.prog 51 #[.int .i64 n] w fun e w' => e = .returned (.bool (decide (0 ≤ n ∧ n ≤ 128))) ∧ w' = w := by
  by_cases h1 : 0 ≤ n
  · by_cases h2 : n ≤ 128
    · rw [show decide (0 ≤ n ∧ n ≤ 128) = true by simp [h1, h2]]
      go_enter Tryz.func51, Tryz.ntmps51
      go_wp2
      go_ret
      exact ⟨rfl, rfl⟩
    · rw [show decide (0 ≤ n ∧ n ≤ 128) = false by simp [h2]]
      go_enter Tryz.func51, Tryz.ntmps51
      go_wp2
      go_ret
      exact ⟨rfl, rfl⟩
  · rw [show decide (0 ≤ n ∧ n ≤ 128) = false by simp [h1]]
    go_enter Tryz.func51, Tryz.ntmps51
    go_wp2
    go_ret
    exact ⟨rfl, rfl⟩
theorem New_no (n : Int) (hn : ¬ (0 ≤ n ∧ n ≤ 128)) (w : World) : Calls Tryz.prog 27 #[.int .i64 n] w fun e w' => e = .returned (.tuple #[.pointer none, .int .i64 1]) ∧ w' = w := by
  have h := isCount_any n w
  rw [decide_eq_false hn] at h
  clear hn
  go_enter Tryz.func27, Tryz.ntmps27
  go_wp2_with fail
  refine h.mono ?_
  rintro e w' ⟨rfl, rfl⟩
  go_wp2_with fail
  refine bodyPost_ret (results_tmp2 rfl _ _ _) rfl ?_
  exact ⟨rfl, rfl⟩
theorem New_ok (n : Int) (hn : 0 ≤ n ∧ n ≤ 128) (w : World) : Calls Tryz.prog 27 #[.int .i64 n] w fun e w' => e = .returned (.tuple #[.pointer (some ⟨w.heap.size, 0, none⟩), .int .i64 0]) ∧
    Lq (fun k => k = w.heap.size) w' w.heap.size n none none 0 0 (fun _ => none) (fun _ => none) ∧ Below w.heap.size w w' := by
  have h := isCount_any n w
  rw [decide_eq_true hn] at h
  have HN := Lib.hid hn
  clear hn
  go_enter Tryz.func27, Tryz.ntmps27
  go_wp2_with fail
  refine h.mono ?_
  rintro e w' ⟨rfl, rfl⟩
  go_wp2_with fail
  refine bodyPost_ret (results_tmp2 rfl _ _ _) rfl ?_
  refine ⟨by simp, ⟨(MapKept.heap_alloc _ _).1, ⟨rfl, fun _ => rfl⟩, ⟨rfl, fun _ => rfl⟩, rfl, (fun _ e => by cases e), (fun _ e => by cases e), (fun _ e => by cases e), (fun k e => by simp; omega), HN.out, (fun _ _ e => by cases e), (fun _ _ e => by cases e)⟩, (Below.refl _ _).alloc (Nat.le_refl _) _⟩
theorem Has_any (h : Lq S w lb ea mo ho nm nh M H) (k : K) (hk : wk k) : Calls Tryz.prog 85 #[.pointer (some ⟨lb, 0, none⟩), .string ⟨k.toArray⟩] w fun e w' => e = .returned (.int .i64 (has H k)) ∧ w' = w := by
  have c := h.cells.2.2
  have l : (Instr.lookup 101 (.map ho) (.string ⟨k.toArray⟩) false).run Tryz.prog w = .ok (.int .i64 (has H k)) w := h.has.look1 (fun _ _ => rfl) hk
  clear h
  generalize has H k = x at *
  go_enter Tryz.func85, Tryz.ntmps85
  go_wp2_with fail
  go_ret
  exact ⟨rfl, rfl⟩
theorem May_any (h : Lq S w lb ea mo ho nm nh M H) (k : K) (hk : wk k) : Calls Tryz.prog 86 #[.pointer (some ⟨lb, 0, none⟩), .string ⟨k.toArray⟩] w fun e w' => e = .returned (.int .i64 (may ea M k)) ∧ w' = w := by
  have c := h.cells.2.1
  have c0 := h.cells.1
  have l : (Instr.lookup 101 (.map mo) (.string ⟨k.toArray⟩) true).run Tryz.prog w = .ok (.tuple #[.int .i64 ((M k).getD 0), .bool (M k).isSome]) w := h.most.look (fun _ _ => rfl) hk
  clear h
  unfold may
  cases e : M k with
  | none =>
    rw [e] at l
    simp only [Option.getD_none, Option.isSome_none] at l ⊢
    clear e
    go_enter Tryz.func86, Tryz.ntmps86
    go_wp2_with fail
    go_ret
    exact ⟨rfl, rfl⟩
  | some x =>
    rw [e] at l
    simp only [Option.getD_some, Option.isSome_some] at l ⊢
    clear e
    go_enter Tryz.func86, Tryz.ntmps86
    go_wp2_with fail
    go_ret
    exact ⟨rfl, rfl⟩
theorem Has_nil (v : Value) (w : World) : Calls Tryz.prog 85 #[.pointer none, v] w fun e w' => e = .returned (.int .i64 0) ∧ w' = w := by
  go_enter Tryz.func85, Tryz.ntmps85
  go_wp2_with fail
  go_ret
  exact ⟨rfl, rfl⟩
theorem May_nil (v : Value) (w : World) : Calls Tryz.prog 86 #[.pointer none, v] w fun e w' => e = .returned (.int .i64 0) ∧ w' = w := by
  go_enter Tryz.func86, Tryz.ntmps86
  go_wp2_with fail
  go_ret
  exact ⟨rfl, rfl⟩
theorem Take_nil (v : Value) (w : World) : Calls Tryz.prog 72 #[.pointer none, v] w fun e w' => e = .returned (.int .i64 1) ∧ w' = w := by
  go_enter Tryz.func72, Tryz.ntmps72
  go_wp2_with fail
  go_ret
  exact ⟨rfl, rfl⟩
end
end Go.Proofs.YtcodjknhnhdkfaaGreatDoor.Qt
namespace Go.Proofs.YtcodjknhnhdkfaaGreatDoor.Qt
open Go.RowKit Go.Lib Go.Maps Go.WideElems Go.ChangeMaps Go.MapKept Hp
set_option linter.unusedVariables false
set_option linter.unusedSectionVars false
set_option maxRecDepth 20000

/-- a ledger of which at most c have some -/
def Lv (S : Nat → Prop) (w : World) (lb : Nat) (ea : Int) (nm c : Nat) (M H : K → Option Int) : Prop := ∃ mo ho nh, Lq S w lb ea mo ho nm nh M H ∧ nh ≤ c
/-- a ledger has changed, and nothing else -/
def To (S : Nat → Prop) (w w' : World) (lb : Nat) (ea : Int) (nm c : Nat) (M H : K → Option Int) : Prop :=
  ∃ S', Lv S' w' lb ea nm c M H ∧ Fr S w w' ∧ ∀ k, S' k → S k ∨ w.heap.size ≤ k
section
variable {S : Nat → Prop} {w : World} {lb : Nat} {ea : Int} {mo ho : Option Nat} {nm nh c : Nat} {M H : K → Option Int}
theorem Lv.kept {Y : World} (h : Lv S w lb ea nm c M H) (hs : w.heap.size ≤ Y.heap.size) (e : ∀ k, S k → Y.heap[k]? = w.heap[k]?) : Lv S Y lb ea nm c M H := by
  obtain ⟨mo, ho, nh, h1, h2⟩ := h; exact ⟨mo, ho, nh, h1.kept hs e, h2⟩
theorem Lv.below {Y : World} {B : Nat} (h : Lv S w lb ea nm c M H) (b : Below B w Y) (hB : w.heap.size ≤ B) : Lv S Y lb ea nm c M H := by
  obtain ⟨mo, ho, nh, h1, h2⟩ := h; exact ⟨mo, ho, nh, h1.below b hB, h2⟩
theorem Lv.fr {S' : Nat → Prop} {Y : World} (h : Lv S w lb ea nm c M H) (e : Fr S' w Y) (hd : ∀ k, S k → ¬ S' k) : Lv S Y lb ea nm c M H := by
  obtain ⟨mo, ho, nh, h1, h2⟩ := h; exact ⟨mo, ho, nh, h1.fr e hd, h2⟩
theorem Lv.size (h : Lv S w lb ea nm c M H) : ∀ k, S k → k < w.heap.size := by obtain ⟨mo, ho, nh, h1, h2⟩ := h; exact h1.size
theorem Lv.own (h : Lv S w lb ea nm c M H) : S lb := by obtain ⟨mo, ho, nh, h1, h2⟩ := h; exact h1.own
theorem Lv.may_bd (h : Lv S w lb ea nm c M H) (k : K) : 0 ≤ may ea M k ∧ may ea M k ≤ 128 := by obtain ⟨mo, ho, nh, h1, h2⟩ := h; exact h1.may_bd k
theorem Lv.has_bd (h : Lv S w lb ea nm c M H) (k : K) : 0 ≤ Qt.has H k ∧ Qt.has H k ≤ 128 ∧ (0 < Qt.has H k → (H k).isSome = true) ∧ (Qt.has H k = 0 → H k = none) := by obtain ⟨mo, ho, nh, h1, h2⟩ := h; exact h1.has_bd k
theorem Lv.Has (h : Lv S w lb ea nm c M H) (k : K) (hk : wk k) : Calls Tryz.prog 85 #[.pointer (some ⟨lb, 0, none⟩), .string ⟨k.toArray⟩] w fun e w' => e = .returned (.int .i64 (has H k)) ∧ w' = w := by
  obtain ⟨mo, ho, nh, h1, h2⟩ := h; exact Has_any h1 k hk
theorem Lv.May (h : Lv S w lb ea nm c M H) (k : K) (hk : wk k) : Calls Tryz.prog 86 #[.pointer (some ⟨lb, 0, none⟩), .string ⟨k.toArray⟩] w fun e w' => e = .returned (.int .i64 (may ea M k)) ∧ w' = w := by
  obtain ⟨mo, ho, nh, h1, h2⟩ := h; exact May_any h1 k hk
/-- the world in which a ledger's map was made -/
def mkd (w : World) (lb i : Nat) : World := (w.alloc (.map #[] 0)).setCell ⟨lb, i, none⟩ (.map (some w.heap.size))
theorem mk_fr (h : Lq S w lb ea mo ho nm nh M H) (i : Nat) : Fr S w (mkd w lb i) := by
  refine ⟨rfl, rfl, rfl, by simp [mkd], fun k hk hn => ?_⟩
  rw [mkd, heap_setCell_other _ _ _ _ (fun e => hn (by rw [e]; exact h.own))]
  exact Below.heap_alloc w _ k hk
theorem mk_new (w : World) (lb i : Nat) (h : lb < w.heap.size) : (mkd w lb i).heap[w.heap.size]? = some (.map #[] 0) := by
  rw [mkd, heap_setCell_other _ _ _ _ (show w.heap.size ≠ lb by omega)]
  exact (MapKept.heap_alloc w _).1
theorem mk_row (h : Lq S w lb ea mo ho nm nh M H) (i : Nat) : (mkd w lb i).heap[lb]? = some (.cells ((#[.int .i64 ea, .map mo, .map ho] : Array Value).setIfInBounds i (.map (some w.heap.size))) 103 (0, 0)) := by
  have hl := h.size lb h.own
  have e : (w.alloc (.map #[] 0)).heap[lb]? = _ := (Below.heap_alloc w _ lb hl).trans h.row
  unfold mkd
  exact Lib.heap_setCell_same e _
theorem Lq.newH (h : Lq S w lb ea mo none nm nh M H) : Lq (fun k => S k ∨ k = w.heap.size) (mkd w lb 2) lb ea mo (some w.heap.size) nm 0 M H := by
  have hl := h.size lb h.own
  have hf := mk_fr h 2
  have hH : H = fun _ => none := by funext k; exact h.has.2 k
  have hk : ∀ k, S k → k ≠ lb → (mkd w lb 2).heap[k]? = w.heap[k]? := fun k hk e => by
    unfold mkd
    rw [heap_setCell_other _ _ _ _ e]
    exact Below.heap_alloc w _ k (h.size k hk)
  refine ⟨mk_row h 2, h.most.kept fun b hb => hk b (h.ownM b hb) (fun e => ?_), ?_, .inl h.own, fun b hb => .inl (h.ownM b hb), fun b hb => .inr (Option.some.inj hb).symm, fun b hb e => ?_, fun k hk => ?_, h.okE, h.okM, h.okH⟩
  · have := h.most; rw [hb] at this
    exact absurd e (Mv.Mp.ne this h.row)
  · rw [hH]
    exact Mv.Mp.kept (made w) ((mk_new w lb 2 hl).trans (MapKept.heap_alloc w _).1.symm)
  · have := h.size b (h.ownM b hb); have := Option.some.inj e; omega
  · rcases hk with hk | rfl
    · exact Nat.lt_of_lt_of_le (h.size k hk) hf.size
    · simp [mkd]
theorem Lq.newM (h : Lq S w lb ea none ho nm nh M H) : Lq (fun k => S k ∨ k = w.heap.size) (mkd w lb 1) lb ea (some w.heap.size) ho 0 nh M H := by
  have hl := h.size lb h.own
  have hf := mk_fr h 1
  have hM : M = fun _ => none := by funext k; exact h.most.2 k
  have hk : ∀ k, S k → k ≠ lb → (mkd w lb 1).heap[k]? = w.heap[k]? := fun k hk e => by
    unfold mkd
    rw [heap_setCell_other _ _ _ _ e]
    exact Below.heap_alloc w _ k (h.size k hk)
  refine ⟨mk_row h 1, ?_, h.has.kept fun b hb => hk b (h.ownH b hb) (fun e => ?_), .inl h.own, fun b hb => .inr (Option.some.inj hb).symm, fun b hb => .inl (h.ownH b hb), fun b hb e => ?_, fun k hk => ?_, h.okE, h.okM, h.okH⟩
  · rw [hM]
    exact Mv.Mp.kept (made w) ((mk_new w lb 1 hl).trans (MapKept.heap_alloc w _).1.symm)
  · have := h.has; rw [hb] at this
    exact absurd e (Mv.Mp.ne this h.row)
  · have := h.size b (h.ownH b e); have := Option.some.inj hb; omega
  · rcases hk with hk | rfl
    · exact Nat.lt_of_lt_of_le (h.size k hk) hf.size
    · simp [mkd]
/-- what one has is stored anew -/
theorem Lq.putH {b : Nat} (h : Lq S w lb ea mo (some b) nm nh M H) (hn : nh < maxLen) {k : K} (hk : wk k) {x : Int} (hx : 1 ≤ x ∧ x ≤ 128) :
    ∃ w2, (Instr.mapUpdate 101 (.map (some b)) (.string ⟨k.toArray⟩) (.int .i64 x)).run Tryz.prog w = .ok () w2 ∧ Lq S w2 lb ea mo (some b) nm (if (H k).isSome then nh else nh + 1) M (Hp.upd H k x) ∧ Fr S w w2 := by
  obtain ⟨w2, h1, h2, h3, h4⟩ := put h.has hn hk x
  have hb := h.ownH b rfl
  have hf : Fr S w w2 := Fr.grown h3 (.inl hb)
  have hk2 : ∀ k, S k → k ≠ b → w2.heap[k]? = w.heap[k]? := fun k hk e => h3.block k (h.size k hk) (fun e2 => e (Option.some.inj e2))
  refine ⟨w2, h1, ⟨(hk2 lb h.own (fun e => Mv.Mp.ne h.has h.row e.symm)).trans h.row, h.most.kept fun b2 hb2 => hk2 b2 (h.ownM b2 hb2) (fun e => h.apart b2 hb2 (by rw [e])), h2, h.own, h.ownM, h.ownH, h.apart, fun k hk => Nat.lt_of_lt_of_le (h.size k hk) hf.size, h.okE, h.okM, fun k' n e => ?_⟩, hf⟩
  unfold Hp.upd at e
  by_cases e2 : k' = k
  · rw [if_pos e2] at e
    cases e; exact hx
  · rw [if_neg e2] at e
    exact h.okH k' n e
/-- how many one may have is stored -/
theorem Lq.putM {b : Nat} (h : Lq S w lb ea (some b) ho nm nh M H) (hn : nm < maxLen) {k : K} (hk : wk k) {x : Int} (hx : 0 ≤ x ∧ x ≤ 128) :
    ∃ w2, (Instr.mapUpdate 101 (.map (some b)) (.string ⟨k.toArray⟩) (.int .i64 x)).run Tryz.prog w = .ok () w2 ∧ Lq S w2 lb ea (some b) ho (if (M k).isSome then nm else nm + 1) nh (Hp.upd M k x) H ∧ Fr S w w2 := by
  obtain ⟨w2, h1, h2, h3, h4⟩ := put h.most hn hk x
  have hb := h.ownM b rfl
  have hf : Fr S w w2 := Fr.grown h3 (.inl hb)
  have hk2 : ∀ k, S k → k ≠ b → w2.heap[k]? = w.heap[k]? := fun k hk e => h3.block k (h.size k hk) (fun e2 => e (Option.some.inj e2))
  refine ⟨w2, h1, ⟨(hk2 lb h.own (fun e => Mv.Mp.ne h.most h.row e.symm)).trans h.row, h2, h.has.kept fun b2 hb2 => hk2 b2 (h.ownH b2 hb2) (fun e => h.apart b rfl (by rw [hb2, e])), h.own, h.ownM, h.ownH, h.apart, fun k hk => Nat.lt_of_lt_of_le (h.size k hk) hf.size, h.okE, fun k' n e => ?_, h.okH⟩, hf⟩
  unfold Hp.upd at e
  by_cases e2 : k' = k
  · rw [if_pos e2] at e
    cases e; exact hx
  · rw [if_neg e2] at e
    exact h.okM k' n e
/-- one has none any more -/
theorem Lq.dropH {b : Nat} (h : Lq S w lb ea mo (some b) nm nh M H) {k : K} (hk : wk k) (hh : (H k).isSome = true) (ty : TypeId) :
    ∃ w2, (Builtin.delete_ #[101, 9] ty #[.map (some b), .string ⟨k.toArray⟩]).run Tryz.prog w = .ok (.tuple #[]) w2 ∧ Lq S w2 lb ea mo (some b) nm (nh - 1) M (Hp.del H k) ∧ Fr S w w2 := by
  obtain ⟨w2, h1, h2, h3⟩ := drop h.has hk hh ty
  have hb := h.ownH b rfl
  have hf : Fr S w w2 := Fr.grown h3 (.inl hb)
  have hk2 : ∀ k, S k → k ≠ b → w2.heap[k]? = w.heap[k]? := fun k hk e => h3.block k (h.size k hk) (fun e2 => e (Option.some.inj e2))
  refine ⟨w2, h1, ⟨(hk2 lb h.own (fun e => Mv.Mp.ne h.has h.row e.symm)).trans h.row, h.most.kept fun b2 hb2 => hk2 b2 (h.ownM b2 hb2) (fun e => h.apart b2 hb2 (by rw [e])), h2, h.own, h.ownM, h.ownH, h.apart, fun k hk => Nat.lt_of_lt_of_le (h.size k hk) hf.size, h.okE, h.okM, fun k' n e => ?_⟩, hf⟩
  unfold Hp.del at e
  by_cases e2 : k' = k
  · rw [if_pos e2] at e; cases e
  · rw [if_neg e2] at e
    exact h.okH k' n e
theorem To.refl (h : Lv S w lb ea nm c M H) : To S w w lb ea nm c M H := ⟨S, h, Fr.refl _ _, fun _ h => .inl h⟩
theorem Take_no (h : Lv S w lb ea nm c M H) (k : K) (hk : wk k) (hq : may ea M k ≤ has H k) : Calls Tryz.prog 72 #[.pointer (some ⟨lb, 0, none⟩), .string ⟨k.toArray⟩] w fun e w' => e = .returned (.int .i64 14) ∧ w' = w := by
  have h1 := h.Has k hk
  have h2 := h.May k hk
  clear h
  generalize has H k = x at *
  generalize may ea M k = y at *
  go_enter Tryz.func72, Tryz.ntmps72
  go_wp2_with fail
  refine h1.mono ?_
  rintro e w1 ⟨rfl, rfl⟩
  go_wp2_with fail
  refine h2.mono ?_
  rintro e w1 ⟨rfl, rfl⟩
  go_wp2_with fail
  go_ret
  exact ⟨rfl, rfl⟩
theorem Take_ok (h : Lv S w lb ea nm c M H) (k : K) (hk : wk k) (hq : has H k < may ea M k) (hc : c ≤ 1000000) : Calls Tryz.prog 72 #[.pointer (some ⟨lb, 0, none⟩), .string ⟨k.toArray⟩] w fun e w' => e = .returned (.int .i64 0) ∧
    To S w w' lb ea nm (c + 1) M (Hp.upd H k (has H k + 1)) := by
  have h1 := h.Has k hk
  have h2 := h.May k hk
  have hb := h.has_bd k
  have hm := h.may_bd k
  obtain ⟨mo, ho, nh, q, hn⟩ := h
  have c2 := q.cells.2.2
  have f2 := q.frozen 2
  cases ho with
  | none =>
    have qn := q.newH
    obtain ⟨w2, r2, q2, fr2⟩ := qn.putH (by unfold maxLen; omega) hk (x := has H k + 1) (by omega)
    have l2 : (Instr.lookup 101 (.map (some w.heap.size)) (.string ⟨k.toArray⟩) false).run Tryz.prog (mkd w lb 2) = .ok (.int .i64 (has H k)) (mkd w lb 2) := qn.has.look1 (fun _ _ => rfl) hk
    have fr1 := mk_fr q 2
    have c3 := qn.cells.2.2
    have HR := Lib.hid (And.intro q2 (And.intro fr1 (And.intro fr2 (And.intro hn hb))))
    have lbl := q.size lb q.own
    have cn : (w.alloc (.map #[] 0)).cell? ⟨lb, 2, none⟩ = some (.map none) := by
      have := Below.heap_alloc w (.map #[] 0) lb lbl
      unfold World.cell? at c2 ⊢; rw [this]; exact c2
    have fn : (w.alloc (.map #[] 0)).frozen? ⟨lb, 2, none⟩ = false := by
      have := Below.heap_alloc w (.map #[] 0) lb lbl
      unfold World.frozen? at f2 ⊢; rw [this]; exact f2
    unfold mkd at r2 l2 c3
    have b1 := hb.1
    have b2 := hb.2.1
    clear q q2 qn fr1 fr2 hn hb hm lbl
    generalize has H k = x at *
    generalize may ea M k = y at *
    have hw : wrap64 (x + 1) = x + 1 := by unfold wrap64; omega
    have he := eql_none
    have hmk := make_map
    go_enter Tryz.func72, Tryz.ntmps72
    go_wp2_with fail
    refine h1.mono ?_
    rintro e w1 ⟨rfl, rfl⟩
    go_wp2_with fail
    refine h2.mono ?_
    rintro e w1 ⟨rfl, rfl⟩
    go_wp2_with fail
    go_ret
    refine ⟨rfl, _, ⟨_, _, _, HR.out.1, ?_⟩, HR.out.2.1.trans HR.out.2.2.1 ?_, ?_⟩
    · split <;> omega
    · rintro y (hy | rfl)
      · exact .inl hy
      · exact .inr (Nat.le_refl _)
    · rintro y (hy | rfl)
      · exact .inl hy
      · exact .inr (Nat.le_refl _)
  | some b =>
    obtain ⟨w2, r2, q2, fr2⟩ := q.putH (by unfold maxLen; omega) hk (x := has H k + 1) (by omega)
    have l2 : (Instr.lookup 101 (.map (some b)) (.string ⟨k.toArray⟩) false).run Tryz.prog w = .ok (.int .i64 (has H k)) w := q.has.look1 (fun _ _ => rfl) hk
    have HR := Lib.hid (And.intro q2 (And.intro fr2 hn))
    have b1 := hb.1
    have b2 := hb.2.1
    clear q q2 fr2 hn hb hm
    generalize has H k = x at *
    generalize may ea M k = y at *
    have hw : wrap64 (x + 1) = x + 1 := by unfold wrap64; omega
    have he := eql_some b
    go_enter Tryz.func72, Tryz.ntmps72
    go_wp2_with fail
    refine h1.mono ?_
    rintro e w1 ⟨rfl, rfl⟩
    go_wp2_with fail
    refine h2.mono ?_
    rintro e w1 ⟨rfl, rfl⟩
    go_wp2_with fail
    go_ret
    refine ⟨rfl, _, ⟨_, _, _, HR.out.1, ?_⟩, HR.out.2.1, fun _ h => .inl h⟩
    have := HR.out.2.2
    split <;> omega
end
end Go.Proofs.YtcodjknhnhdkfaaGreatDoor.Qt
