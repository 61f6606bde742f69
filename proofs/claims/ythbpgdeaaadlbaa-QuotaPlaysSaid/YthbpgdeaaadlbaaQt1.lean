
/- quotas: maps of texts to integers, told by a function -/
import Derived.Test.YthbpgdeaaadlbaaMx
import Derived.Test.YthbpgdeaaadlbaaHs
import Derived.Test.YthbpgdeaaadlbaaAo
import Derived.Sort.KeysCollected
import Derived.Lib.Hide
import Derived.OwnWalk
import Derived.Deep.QuietTactic
import Derived.BigQuiet
import Derived.StillTailTactics
import Derived.Deep.RegionWith
namespace Go.Proofs.Ythbpgdeaaadlbaa.Qt
open Go.RowKit Go.Lib Go.Maps Go.WideElems Go.ChangeMaps Go.MapKept Hp
set_option linter.unusedVariables false
set_option linter.unusedSectionVars false
set_option maxRecDepth 20000

abbrev K := List UInt8
def ek (k : K) : Value := .string ⟨k.toArray⟩
def er (n : Int) : Value := .int .i64 n
def wk (k : K) : Prop := k.length ≤ maxLen
theorem kind : Mv.Kind Try.prog 29 9 3 (er 0) ek wk where
  map := Try.underlying29
  zero w := by unfold er; go_simp
  keyed := Maps.string_keyed Try.underlying9
  key k hk := ⟨_, Hp.keyOf_str Try.underlying9 hk⟩
  inj k k' h := by simpa [ek] using h
  back v l h := by obtain ⟨x, e, _, h2⟩ := Maps.keyOf_str Try.underlying9 h; exact ⟨x, e, h2⟩
def vf (f : K → Option Int) : K → Option Value := fun k => (f k).map er
abbrev Mq (w : World) (b n : Nat) (f : K → Option Int) : Prop := Mv.Mp Try.prog 9 ek wk w b n (vf f)
theorem vf_some (f : K → Option Int) (k : K) : (vf f k).isSome = (f k).isSome := by unfold vf; cases f k <;> rfl
theorem vf_get (f : K → Option Int) (k : K) : (vf f k).getD (er 0) = er ((f k).getD 0) := by unfold vf; cases f k <;> rfl
theorem vf_upd (f : K → Option Int) (k : K) (x : Int) : Mv.upd (vf f) k (er x) = vf (Hp.upd f k x) := by
  funext k'
  unfold Mv.upd Hp.upd vf
  by_cases e : k' = k
  · rw [if_pos e]; simp [e]
  · rw [if_neg e]; simp [e]
section
variable {P : Program} {t tk te : TypeId} {z : Value} {K : Type} [DecidableEq K] {ek : K → Value} {wk : K → Prop}
/-- an entry is struck -/
theorem mp_drop (κ : Mv.Kind P t tk te z ek wk) {w : World} {b n : Nat} {f : K → Option Value} (h : Mv.Mp P tk ek wk w b n f) {k : K} (hk : wk k) (hf : (f k).isSome = true) (ty : TypeId) :
    ∃ w2, (Builtin.delete_ #[t, tk] ty #[.map (some b), ek k]).run P w = .ok (.tuple #[]) w2 ∧ Mv.Mp P tk ek wk w2 b (n - 1) (fun k' => if k' = k then none else f k') ∧ w.grownBy w2 (some b) := by
  obtain ⟨D, hm, hsz, hD⟩ := h
  obtain ⟨w2, hr, hm2, es, clock, es2, clock2, hb, rfl⟩ := hm.drop κ.keyed κ.map (κ.at hk) ty
  have hs := Maps.size_del (k := Mv.kl P tk ek k) (hm.tidy κ.keyed)
  rw [Mv.has_of κ (hD k hk), hf, if_pos rfl] at hs
  have hs2 : Maps.size (D.del (Mv.kl P tk ek k)) = n - 1 := by omega
  refine ⟨_, hr, ⟨_, ?_, hs2, fun k' hk' z => ?_⟩, ⟨rfl, rfl, rfl, by simp [ChangeMaps.setBlock], fun i _ hi => heap_setBlock_other hb _ (fun e => hi (by rw [e]))⟩⟩
  · obtain ⟨es3, clock3, hb3, F3, hs3, e3⟩ := hm2
    exact ⟨es3, clock3, hb3, F3, by rw [← hs2, e3]; simp [Maps.size, length_sorted], e3⟩
  · dsimp only
    by_cases e : k' = k
    · rw [if_pos e, e, Maps.atKey_del_same]
    · rw [if_neg e, Maps.atKey_del_other (fun e2 => e (κ.kinj hk' hk e2)), hD k' hk' z]
end
variable {w : World} {b n : Nat} {f : K → Option Int}
theorem look (h : Mq w b n f) {Y : World} (e : Y.heap[b]? = w.heap[b]?) {k : K} (hk : wk k) :
    (Instr.lookup 29 (.map (some b)) (.string ⟨k.toArray⟩) true).run Try.prog Y = .ok (.tuple #[.int .i64 ((f k).getD 0), .bool (f k).isSome]) Y := by
  have := Mv.Mp.look kind h e hk
  rw [vf_some, vf_get] at this
  exact this
theorem look1 (h : Mq w b n f) {Y : World} (e : Y.heap[b]? = w.heap[b]?) {k : K} (hk : wk k) :
    (Instr.lookup 29 (.map (some b)) (.string ⟨k.toArray⟩) false).run Try.prog Y = .ok (.int .i64 ((f k).getD 0)) Y := by
  have := Mv.Mp.look1 kind h e hk
  rw [vf_get] at this
  exact this
theorem look1_nil (Y : World) {k : K} (hk : wk k) : (Instr.lookup 29 (.map none) (.string ⟨k.toArray⟩) false).run Try.prog Y = .ok (.int .i64 0) Y := Mv.look1_nil kind Y hk
theorem look_nil (Y : World) {k : K} (hk : wk k) : (Instr.lookup 29 (.map none) (.string ⟨k.toArray⟩) true).run Try.prog Y = .ok (.tuple #[.int .i64 0, .bool false]) Y :=
  Maps.look_nil true kind.keyed kind.map (kind.zero Y) (kind.at hk)
theorem put (h : Mq w b n f) (hn : n < maxLen) {k : K} (hk : wk k) (x : Int) :
    ∃ w2, (Instr.mapUpdate 29 (.map (some b)) (.string ⟨k.toArray⟩) (.int .i64 x)).run Try.prog w = .ok () w2 ∧ Mq w2 b (if (f k).isSome then n else n + 1) (Hp.upd f k x) ∧ w.grownBy w2 (some b) ∧ w2.heap.size = w.heap.size := by
  obtain ⟨w2, h1, h2, h3⟩ := Mv.Mp.put kind h hn hk (er x)
  rw [vf_some, vf_upd] at h2
  exact ⟨w2, h1, h2, h3⟩
theorem drop (h : Mq w b n f) {k : K} (hk : wk k) (hf : (f k).isSome = true) (ty : TypeId) :
    ∃ w2, (Builtin.delete_ #[29, 9] ty #[.map (some b), .string ⟨k.toArray⟩]).run Try.prog w = .ok (.tuple #[]) w2 ∧ Mq w2 b (n - 1) (Hp.del f k) ∧ w.grownBy w2 (some b) := by
  obtain ⟨w2, h1, h2, h3⟩ := mp_drop kind h hk (by rw [vf_some]; exact hf) ty
  refine ⟨w2, h1, h2.congr fun k' _ => ?_, h3⟩
  unfold vf Hp.del
  by_cases e : k' = k
  · rw [if_pos e]; simp [e]
  · rw [if_neg e]; simp [e]
theorem made (w : World) : Mq (w.alloc (.map #[] 0)) w.heap.size 0 (fun _ => none) := Mv.mp_made w
/-- what a map, or none, holds -/
def Ms (w : World) (ob : Option Nat) (n : Nat) (f : K → Option Int) : Prop := match ob with
  | none => n = 0 ∧ ∀ k, f k = none
  | some b => Mq w b n f
theorem Ms.kept {w Y : World} {ob : Option Nat} {n : Nat} {f : K → Option Int} (h : Ms w ob n f) (e : ∀ b, ob = some b → Y.heap[b]? = w.heap[b]?) : Ms Y ob n f := by
  cases ob with
  | none => exact h
  | some b => exact Mv.Mp.kept h (e b rfl)
theorem Ms.look {w Y : World} {ob : Option Nat} {n : Nat} {f : K → Option Int} (h : Ms w ob n f) (e : ∀ b, ob = some b → Y.heap[b]? = w.heap[b]?) {k : K} (hk : wk k) :
    (Instr.lookup 29 (.map ob) (.string ⟨k.toArray⟩) true).run Try.prog Y = .ok (.tuple #[.int .i64 ((f k).getD 0), .bool (f k).isSome]) Y := by
  cases ob with
  | none => rw [h.2 k]; exact look_nil Y hk
  | some b => exact Qt.look h (e b rfl) hk
theorem Ms.look1 {w Y : World} {ob : Option Nat} {n : Nat} {f : K → Option Int} (h : Ms w ob n f) (e : ∀ b, ob = some b → Y.heap[b]? = w.heap[b]?) {k : K} (hk : wk k) :
    (Instr.lookup 29 (.map ob) (.string ⟨k.toArray⟩) false).run Try.prog Y = .ok (.int .i64 ((f k).getD 0)) Y := by
  cases ob with
  | none => rw [h.2 k]; exact look1_nil Y hk
  | some b => exact Qt.look1 h (e b rfl) hk
theorem Ms.len {w Y : World} {ob : Option Nat} {n : Nat} {f : K → Option Int} (h : Ms w ob n f) (e : ∀ b, ob = some b → Y.heap[b]? = w.heap[b]?) (ty : TypeId) :
    (Builtin.len_ #[29] ty #[.map ob]).run Try.prog Y = .ok (.int .i64 (n : Nat)) Y := by
  cases ob with
  | none => obtain ⟨rfl, _⟩ := h; go_simp
  | some b => exact Mv.Mp.len kind h (e b rfl) ty
theorem Ms.lt {w : World} {b n : Nat} {f : K → Option Int} (h : Ms w (some b) n f) : b < w.heap.size := Mv.Mp.lt h
end Go.Proofs.Ythbpgdeaaadlbaa.Qt
