
/- graphs: how they lie; idOf, has, New -/
import Derived.Test.YtmlmacplkfnhkaaDgBB
import Derived.Lib.Hide
import Derived.Laws.NewBlocks
import Derived.OwnWalk
import Derived.Deep.QuietTactic
import Derived.BigQuiet
import Derived.StillTailTactics
import Derived.Deep.RegionWith
namespace Go.Proofs.Ytmlmacplkfnhkaa.DgB
open Go.RowKit Go.Lib Hp Mv Dg Ht
set_option linter.unusedVariables false
set_option maxRecDepth 20000

abbrev Mq (w : World) (b n : Nat) (f : Id → Option Value) : Prop := Mv.Mp Try.prog 67 ek wk w b n f
/-- what the map of the nodes has -/
def nf (ns : List Id) (nb : Id → Nat) : Id → Option Value := fun x => if x ∈ ns then some (.pointer (some ⟨nb x, 0, none⟩)) else none
/-- what a set has -/
def sf (p : Id → Bool) : Id → Option Value := fun x => if p x = true then some unit else none
theorem sf_some (p : Id → Bool) (x : Id) : (sf p x).isSome = p x := by unfold sf; cases p x <;> rfl
/-- a graph in memory; all blocks of S its own -/
structure Gq (S : Nat → Prop) (w : World) (gb : Nat) (mv : Option Nat) (ns : List Id) (E : Id → Id → Bool) (nb ob ub : Id → Nat) : Prop where
  obj : w.heap[gb]? = some (.cells #[.map mv] 65 (0, 0))
  map : (mv = none ∧ ns = []) ∨ ∃ b, mv = some b ∧ Mq w b ns.length (nf ns nb)
  node : ∀ x ∈ ns, w.heap[nb x]? = some (.cells #[kv x.1, .map (some (ob x)), .map (some (ub x))] 74 (0, 0))
  on : ∀ x ∈ ns, ∃ n, Mq w (ob x) n (sf fun y => E x y)
  users : ∀ x ∈ ns, ∃ n, Mq w (ub x) n (sf fun y => E y x)
  edge : ∀ x y, E x y = true → x ∈ ns ∧ y ∈ ns
  ok : ∀ x ∈ ns, wk x ∧ x.2 = false
  nd : ns.Nodup
  dOO : ∀ x ∈ ns, ∀ y ∈ ns, ob x = ob y → x = y
  dUU : ∀ x ∈ ns, ∀ y ∈ ns, ub x = ub y → x = y
  dOU : ∀ x ∈ ns, ∀ y ∈ ns, ob x ≠ ub y
  dM : ∀ b, mv = some b → ∀ x ∈ ns, ob x ≠ b ∧ ub x ≠ b
  ownG : S gb
  ownM : ∀ b, mv = some b → S b
  ownN : ∀ x ∈ ns, S (nb x) ∧ S (ob x) ∧ S (ub x)
  size : ∀ k, S k → k < w.heap.size
section
variable {S : Nat → Prop} {w : World} {gb : Nat} {mv : Option Nat} {ns : List Id} {E : Id → Id → Bool} {nb ob ub : Id → Nat}
theorem Gq.kept {Y : World} (h : Gq S w gb mv ns E nb ob ub) (hs : w.heap.size ≤ Y.heap.size) (e : ∀ k, S k → Y.heap[k]? = w.heap[k]?) : Gq S Y gb mv ns E nb ob ub where
  obj := (e gb h.ownG).trans h.obj
  map := h.map.imp_right fun ⟨b, h1, h2⟩ => ⟨b, h1, h2.kept (e b (h.ownM b h1))⟩
  node x hx := (e _ (h.ownN x hx).1).trans (h.node x hx)
  on x hx := by obtain ⟨n, hm⟩ := h.on x hx; exact ⟨n, hm.kept (e _ (h.ownN x hx).2.1)⟩
  users x hx := by obtain ⟨n, hm⟩ := h.users x hx; exact ⟨n, hm.kept (e _ (h.ownN x hx).2.2)⟩
  edge := h.edge
  ok := h.ok
  nd := h.nd
  dOO := h.dOO
  dUU := h.dUU
  dOU := h.dOU
  dM := h.dM
  ownG := h.ownG
  ownM := h.ownM
  ownN := h.ownN
  size k hk := Nat.lt_of_lt_of_le (h.size k hk) hs
theorem Gq.below {Y : World} {B : Nat} (h : Gq S w gb mv ns E nb ob ub) (b : Below B w Y) (hB : w.heap.size ≤ B) : Gq S Y gb mv ns E nb ob ub :=
  h.kept b.size fun k hk => b.block k (Nat.lt_of_lt_of_le (h.size k hk) hB)
theorem Gq.fr {S' : Nat → Prop} {Y : World} (h : Gq S w gb mv ns E nb ob ub) (e : Fr S' w Y) (hd : ∀ k, S k → ¬ S' k) : Gq S Y gb mv ns E nb ob ub :=
  h.kept e.size fun k hk => e.block k (h.size k hk) (hd k hk)
theorem Gq.cell (h : Gq S w gb mv ns E nb ob ub) : w.cell? ⟨gb, 0, none⟩ = some (.map mv) := by rw [cell_of_row w gb 0 _ _ _ h.obj]; rfl
theorem Gq.frozen (h : Gq S w gb mv ns E nb ob ub) : w.frozen? ⟨gb, 0, none⟩ = false := by simp [World.frozen?, h.obj]
theorem Gq.nodeC (h : Gq S w gb mv ns E nb ob ub) {x : Id} (hx : x ∈ ns) : w.cell? ⟨nb x, 0, none⟩ = some (kv x.1) ∧ w.cell? ⟨nb x, 1, none⟩ = some (.map (some (ob x))) ∧ w.cell? ⟨nb x, 2, none⟩ = some (.map (some (ub x))) := by
  have e := h.node x hx
  refine ⟨?_, ?_, ?_⟩ <;> (rw [cell_of_row w _ _ _ _ _ e]; rfl)
theorem Gq.look {Y : World} (h : Gq S w gb mv ns E nb ob ub) (e : ∀ b, mv = some b → Y.heap[b]? = w.heap[b]?) {x : Id} (hx : wk x) :
    (Instr.lookup 63 (.map mv) (ek x) false).run Try.prog Y = .ok (if x ∈ ns then .pointer (some ⟨nb x, 0, none⟩) else .pointer none) Y := by
  rcases h.map with ⟨rfl, rfl⟩ | ⟨b, rfl, hm⟩
  · rw [look1_nil kindN Y hx, if_neg (by simp)]
  · rw [hm.look1 kindN (e b rfl) hx]
    unfold nf
    split <;> rfl
end
/-- a graph -/
def Gd (S : Nat → Prop) (w : World) (gb : Nat) (ns : List Id) (E : Id → Id → Bool) : Prop := ∃ mv nb ob ub, Gq S w gb mv ns E nb ob ub
theorem results_c1 {fn : Func} {p : Tmp} {ty : TypeId} (h : fn.results = #[.cell p ty]) (tmps : Array Value) (P : Program) (w : World) :
    (results fn tmps).run P w = ((asAddr (tmps.getD p undef)).run P w).andThen fun a w₁ => (loadVar ty a).run P w₁ := by
  simp only [results, h]
  simp [Sem.run_bind, Result.andThen]
theorem below_drewN {B : Nat} {a w : World} (h : Below B a w) (n : Nat) : Below B a (w.drewN n) := ⟨h.os, h.tape, h.output, h.size, h.block⟩
/-- a cell of two -/
theorem cell_id (w : World) (x : Id) : (w.alloc (.cells #[kv x.1, .bool x.2] 67)).cell? ⟨w.heap.size, 0, none⟩ = some (kv x.1) ∧ (w.alloc (.cells #[kv x.1, .bool x.2] 67)).cell? ⟨w.heap.size, 1, none⟩ = some (.bool x.2) := by
  have h := (MapKept.heap_alloc w (.cells #[kv x.1, .bool x.2] 67)).1
  constructor <;> (rw [cell_of_row _ _ _ _ _ _ h]; rfl)
theorem idOf_any (k : (List UInt8)) (w : World) : Calls Try.prog 24 #[kv k] w fun e w' => e = .returned (ek (k, false)) ∧ Below w.heap.size w w' := by
  unfold ek kv
  go_enter Try.func24, Try.ntmps24
  go_wp2_with fail
  (try simp only [Exit.inBlock, Exit.then])
  refine bodyPost_ret (v := .agg #[.string ⟨k.toArray⟩, .bool false]) ?_ rfl ⟨rfl, ?_⟩
  · rw [results_c1 rfl]
    go_simp
  · (repeat' (first | exact Below.refl _ _ | refine Below.setCell ?_ (by simp <;> omega) _ | refine Below.alloc ?_ (by simp <;> omega) _))
theorem new_any (w : World) : Calls Try.prog 10 #[] w fun e w' => e = .returned (.pointer (some ⟨w.heap.size, 0, none⟩)) ∧ Gd (fun k => k = w.heap.size) w' w.heap.size [] (fun _ _ => false) ∧ Below w.heap.size w w' := by
  go_enter Try.func10, Try.ntmps10
  go_wp2_with fail
  go_ret
  refine ⟨by simp, ⟨none, fun _ => 0, fun _ => 0, fun _ => 0, (MapKept.heap_alloc w _).1, .inl ⟨rfl, rfl⟩, ?_, ?_, ?_, ?_, ?_, List.nodup_nil, ?_, ?_, ?_, ?_, rfl, ?_, ?_, ?_⟩, (Below.refl _ _).alloc (Nat.le_refl _) _⟩
  all_goals first | (intro k hk; simp; omega) | (intro b e; cases e) | (intro x hx; simp at hx) | (intro x y h; cases h)
  all_goals simp
section
variable {S : Nat → Prop} {w : World} {gb : Nat} {mv : Option Nat} {ns : List Id} {E : Id → Id → Bool} {nb ob ub : Id → Nat}
theorem has_any (q : Gq S w gb mv ns E nb ob ub) (x : Id) (hx : wk x) : Calls Try.prog 25 #[.pointer (some ⟨gb, 0, none⟩), ek x] w fun e w' => e = .returned (.bool (decide (x ∈ ns))) ∧ Below w.heap.size w w' := by
  obtain ⟨V, hV⟩ : ∃ V, V = w.alloc (.cells #[kv x.1, .bool x.2] 67) := ⟨_, rfl⟩
  have hb : Below w.heap.size w V := by rw [hV]; exact (Below.refl _ w).alloc (Nat.le_refl _) _
  have q2 := q.below hb (Nat.le_refl _)
  have c0 := q2.cell
  have hl : ∀ n, (Instr.lookup 63 (.map mv) (.agg #[kv x.1, .bool x.2]) false).run Try.prog (V.drewN n) = .ok (if x ∈ ns then .pointer (some ⟨nb x, 0, none⟩) else .pointer none) (V.drewN n) := fun n => q2.look (Y := V.drewN n) (fun b e => rfl) hx
  obtain ⟨c1, c2⟩ := cell_id w x
  rw [← hV] at c1 c2
  have HB := Lib.hid hb
  clear q2 q hb
  unfold ek
  generalize kv x.1 = k1 at *
  generalize x.2 = k2 at *
  by_cases hm : x ∈ ns
  all_goals
    first | rw [if_pos hm] at hl | rw [if_neg hm] at hl
    have HM := Lib.hid hm
    first | rw [decide_eq_true hm] | rw [decide_eq_false hm]
    clear hm
    go_enter Try.func25, Try.ntmps25
    go_wp2_with fail
    rw [← hV]
    clear hV
    go_quiet (fail)
    go_wp2_with fail
    go_ret
    exact ⟨by simp, below_drewN HB.out _⟩
end
end Go.Proofs.Ytmlmacplkfnhkaa.DgB
