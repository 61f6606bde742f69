
/- disks in memory: sectors, writings that wait; Down, Up, Len, has -/
import Derived.Test.YtjblkmjdepdekaaDoorBk
import Derived.Test.YtjblkmjdepdekaaDoorRs
import Derived.Test.YtjblkmjdepdekaaDoorHt
namespace Go.Proofs.YtjblkmjdepdekaaDoor.Dk
open Go.RowKit Go.Lib Go.Proofs.YtjblkmjdepdekaaDoor.By Go.Proofs.YtjblkmjdepdekaaDoor.Ht

/-- a writing: where, and 64 bytes -/
abbrev Wr := Nat × List UInt8
def wcell (x : Wr) : List Value := .int .i64 (x.1 : Nat) :: byteCells x.2
def wcells (W : List Wr) : List Value := W.flatMap wcell
/-- a sector of bytes in a row -/
def getS (F : List UInt8) (k : Nat) : List UInt8 := (F.drop (64 * k)).take 64
def setS (F : List UInt8) (k : Nat) (b : List UInt8) : List UInt8 := F.take (64 * k) ++ b ++ F.drop (64 * k + 64)

structure IsDk (w : World) (B bd gs cs gn cn : Nat) (vw : Value) (n : Nat) (F G : List UInt8) (W : List Wr) (dn : Bool) : Prop where
  blk : w.heap[bd]? = some (.cells #[.slice (some ⟨gs, 0, none⟩) n cs, .slice (some ⟨gn, 0, none⟩) n cn, vw, .bool dn] 63 (0, 0))
  os : w.ownsRow B 79 64 (.slice (some ⟨gs, 0, none⟩) n cs) n (byteCells F)
  on : w.ownsRow B 79 64 (.slice (some ⟨gn, 0, none⟩) n cn) n (byteCells G)
  ow : w.ownsRow B 81 65 vw W.length (wcells W)
  ne : gs ≠ gn
  n1 : 1 ≤ n
  n2 : n ≤ 4096
  hw : ∀ x ∈ W, x.1 < n ∧ x.2.length = 64
  hb : B ≤ bd
/-- the blocks of a disk -/
def Foot (bd gs gn : Nat) (vw : Value) (k : Nat) : Prop := k = bd ∨ k = gs ∨ k = gn ∨ some k = vw.ownBlock
/-- but for some blocks all lies as it lay -/
structure Fr (p : Nat → Prop) (w w' : World) : Prop where
  os : w'.os = w.os
  tape : w'.tape = w.tape
  output : w'.output = w.output
  size : w.heap.size ≤ w'.heap.size
  block : ∀ k, k < w.heap.size → ¬ p k → w'.heap[k]? = w.heap[k]?
theorem Fr.refl (p : Nat → Prop) (w : World) : Fr p w w := ⟨rfl, rfl, rfl, Nat.le_refl _, fun _ _ _ => rfl⟩
theorem Fr.trans {p : Nat → Prop} {a b c : World} (h : Fr p a b) (k : Fr p b c) : Fr p a c :=
  ⟨k.os.trans h.os, k.tape.trans h.tape, k.output.trans h.output, Nat.le_trans h.size k.size, fun i h1 h2 => (k.block i (Nat.lt_of_lt_of_le h1 h.size) h2).trans (h.block i h1 h2)⟩
theorem Fr.mono {p q : Nat → Prop} {a b : World} (h : Fr p a b) (hp : ∀ k, k < a.heap.size → p k → q k) : Fr q a b := ⟨h.os, h.tape, h.output, h.size, fun k h1 h2 => h.block k h1 (fun hk => h2 (hp k h1 hk))⟩
theorem Fr.of {p : Nat → Prop} {a b : World} (h : Below a.heap.size a b) : Fr p a b := ⟨h.os, h.tape, h.output, h.size, fun k hk _ => h.block k hk⟩
theorem Fr.setCell {p : Nat → Prop} {a b : World} (h : Fr p a b) {q o : Nat} (hq : p q ∨ a.heap.size ≤ q) (v : Value) : Fr p a (b.setCell ⟨q, o, none⟩ v) := by
  have h0 : Below 0 b (b.setCell ⟨q, o, none⟩ v) := (Below.refl 0 _).setCell (p := ⟨q, o, none⟩) (Nat.zero_le _) v
  refine ⟨h0.os.trans h.os, h0.tape.trans h.tape, h0.output.trans h.output, Nat.le_trans h.size h0.size, fun k h1 h2 => ?_⟩
  have hk : k ≠ q := fun e => by subst e; rcases hq with hq | hq; exact h2 hq; omega
  exact (Below.heap_setCell b _ _ k (by simpa using hk)).trans (h.block k h1 h2)
theorem Fr.below {p : Nat → Prop} {a b : World} (h : Fr p a b) {B : Nat} (hB : B ≤ a.heap.size) (hp : ∀ k, p k → B ≤ k) : Below B a b :=
  ⟨h.os, h.tape, h.output, h.size, fun k hk => h.block k (by omega) (fun e => by have := hp k e; omega)⟩

theorem four_cells {w : World} {b : Nat} {v0 v1 v2 v3 : Value} {t : TypeId} (h : w.heap[b]? = some (.cells #[v0, v1, v2, v3] t (0, 0))) :
    (w.cell? ⟨b, 0, none⟩ = some v0 ∧ w.cell? ⟨b, 1, none⟩ = some v1 ∧ w.cell? ⟨b, 2, none⟩ = some v2 ∧ w.cell? ⟨b, 3, none⟩ = some v3) ∧ w.frozen? ⟨b, 0, none⟩ = false ∧ w.frozen? ⟨b, 1, none⟩ = false ∧ w.frozen? ⟨b, 2, none⟩ = false ∧ w.frozen? ⟨b, 3, none⟩ = false := by
  refine ⟨⟨?_, ?_, ?_, ?_⟩, ?_, ?_, ?_, ?_⟩ <;> simp [World.cell?, World.frozen?, h]

section
variable {w : World} {B bd gs cs gn cn n : Nat} {vw : Value} {F G : List UInt8} {W : List Wr} {dn : Bool}
theorem down_any (h : IsDk w B bd gs cs gn cn vw n F G W dn) : Calls Tryd.prog 42 #[.pointer (some ⟨bd, 0, none⟩)] w fun e w' => e = .returned (.bool dn) ∧ w = w' := by
  obtain ⟨⟨_, _, _, c3⟩, _⟩ := four_cells h.blk
  clear h
  go_enter Tryd.func42, Tryd.ntmps42
  go_wp2_with fail
  go_ret
  exact ⟨rfl, rfl⟩
theorem down_nil (w : World) : Calls Tryd.prog 42 #[.pointer none] w fun e w' => e = .returned (.bool true) ∧ w = w' := by
  go_enter Tryd.func42, Tryd.ntmps42
  go_wp2_with fail
  go_ret
  exact ⟨rfl, rfl⟩
theorem len_any (h : IsDk w B bd gs cs gn cn vw n F G W dn) : Calls Tryd.prog 22 #[.pointer (some ⟨bd, 0, none⟩)] w fun e w' => e = .returned (.int .i64 (n : Nat)) ∧ w = w' := by
  obtain ⟨⟨_, c1, _, _⟩, _⟩ := four_cells h.blk
  clear h
  go_enter Tryd.func22, Tryd.ntmps22
  go_wp2_with fail
  go_ret
  exact ⟨rfl, rfl⟩
theorem len_nil (w : World) : Calls Tryd.prog 22 #[.pointer none] w fun e w' => e = .returned (.int .i64 0) ∧ w = w' := by
  go_enter Tryd.func22, Tryd.ntmps22
  go_wp2_with fail
  go_ret
  exact ⟨rfl, rfl⟩
theorem up_nil (w : World) : Calls Tryd.prog 17 #[.pointer none] w fun e w' => e = .returned (.tuple #[]) ∧ w = w' := by
  go_enter Tryd.func17, Tryd.ntmps17
  go_wp2_with fail
  go_end0
  exact ⟨rfl, rfl⟩
end
end Go.Proofs.YtjblkmjdepdekaaDoor.Dk
