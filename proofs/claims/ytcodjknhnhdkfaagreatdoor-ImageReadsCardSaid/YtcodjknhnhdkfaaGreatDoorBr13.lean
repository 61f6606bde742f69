/- heaps of string and uint64: Cut, Rank -/
import Derived.Test.YtcodjknhnhdkfaaGreatDoorBr12
import Derived.Test.YtcodjknhnhdkfaaGreatDoorBr09
import Derived.Shelf.RegionOpen
import Derived.OwnWalkIn
import Derived.TacticsInMore
import Derived.LoopNIn
import Derived.LoopIn
namespace Go.Proofs.YtcodjknhnhdkfaaGreatDoor.HpE
open Go.RowKit Go.Lib Go.Sort Hp Ht
set_option linter.unusedVariables false
set_option maxRecDepth 20000
section
variable {S : Nat → Prop} {w : World} {hb : Nat} {iv mv : Value} {l m : List (K × Int)} {f : K → Option Nat}
theorem rank_any (h : Hv S w hb m) {k : K} (hk : wk k) :
    Calls Tryz.prog 127 #[.pointer (some ⟨hb, 0, none⟩), ek k] w fun e w' => ((k ∉ m.map (·.1) ∧ e = .returned (.tuple #[.int .u64 0, .bool false])) ∨ (∃ r, (k, r) ∈ m ∧ e = .returned (.tuple #[er r, .bool true]))) ∧ Below w.heap.size w w' := by
  obtain ⟨iv, mv, l, f, hq, hh, hpm⟩ := h
  have hpl := place_any hq hk
  cases hf : f k with
  | some i =>
    rw [hf] at hpl
    obtain ⟨hi, hki⟩ := (hq.pl k i).1 hf
    obtain ⟨g, cap, b, rfl, hB, rfl, hM, hSg, hSb, hgb, hbb, hgm⟩ := hq.at (by omega)
    have hI := hq.items
    have r1 := hB.rank hi
    obtain ⟨q1, hq1⟩ : ∃ x, x = (el l i).2 := ⟨_, rfl⟩
    rw [← hq1] at r1
    have hin : (k, q1) ∈ m := by
      rw [hq1, ← hki]
      exact hpm.mem_iff.1 (el_mem hi)
    have hix : ((i : Nat) : Int) < ((l.length : Nat) : Int) := by omega
    have HP := Lib.hid (And.intro hpl hin)
    unfold er at r1
    clear hpl hq hh hpm hB hM hSg hSb hgb hbb hgm hf hki hk hi hin hq1
    generalize l.length = n at *
    obtain ⟨kv, hkv⟩ : ∃ x, x = ek k := ⟨_, rfl⟩
    rw [← hkv] at HP ⊢
    clear hkv
    go_enter Tryz.func127, Tryz.ntmps127
    go_wp2_with fail
    refine HP.out.1.mono ?_
    rintro e w1 ⟨rfl, rfl⟩
    go_wp2_with fail
    refine bodyPost_ret (results_tmp2 rfl _ _ _) rfl ?_
    exact ⟨.inr ⟨q1, HP.out.2, by simp [er]⟩, Below.refl _ _⟩
  | none =>
    rw [hf] at hpl
    have hin : k ∉ m.map (·.1) := fun e => (hq.pl.none hf) ((hpm.map _).mem_iff.2 e)
    have HP := Lib.hid (And.intro hpl hin)
    clear hpl hq hh hpm hf hin hk
    obtain ⟨kv, hkv⟩ : ∃ x, x = ek k := ⟨_, rfl⟩
    rw [← hkv] at HP ⊢
    clear hkv
    go_enter Tryz.func127, Tryz.ntmps127
    go_wp2_with fail
    refine HP.out.1.mono ?_
    rintro e w1 ⟨rfl, rfl⟩
    go_wp2_with fail
    refine bodyPost_ret (results_tmp2 rfl _ _ _) rfl ?_
    exact ⟨.inl ⟨HP.out.2, by simp⟩, (Below.refl _ _).alloc (Nat.le_refl _) _⟩
end
end Go.Proofs.YtcodjknhnhdkfaaGreatDoor.HpE
namespace Go.Proofs.YtcodjknhnhdkfaaGreatDoor.HpE
open Go.RowKit Go.Lib Go.Sort Hp
set_option linter.unusedVariables false
/-- a heap whose blocks lie from B on, and are none of Nt -/
def Hy (B : Nat) (Nt : Nat → Prop) (w : World) (hb : Nat) (m : List (K × Int)) : Prop := ∃ S, Hv S w hb m ∧ (∀ k, S k → B ≤ k) ∧ ∀ k, S k → ¬ Nt k
section
variable {B : Nat} {Nt : Nat → Prop} {w : World} {hb : Nat} {m : List (K × Int)}
theorem Hy.of {S : Nat → Prop} {w' : World} {m' : List (K × Int)} (h : Hw S w hb w' m') (hs : ∀ k, S k → B ≤ k) (hn : ∀ k, S k → ¬ Nt k) (hB : B ≤ w.heap.size) (hN : ∀ k, Nt k → k < w.heap.size) :
    Hy B Nt w' hb m' ∧ Below B w w' ∧ ∀ k, Nt k → w'.heap[k]? = w.heap[k]? := by
  obtain ⟨S', h1, h2, h3⟩ := h
  refine ⟨⟨S', h1, fun k hk => (h3 k hk).elim (hs k) (fun e => Nat.le_trans hB e), fun k hk e => ?_⟩, h2.below hB hs, fun k hk => h2.block k (hN k hk) (fun e => hn k e hk)⟩
  rcases h3 k hk with h | h
  · exact hn k h e
  · have := hN k e; omega
theorem Hy.kept {Y : World} (h : Hy B Nt w hb m) (hs : w.heap.size ≤ Y.heap.size) (e : ∀ k, k < w.heap.size → ¬ Nt k → Y.heap[k]? = w.heap[k]?) : Hy B Nt Y hb m := by
  obtain ⟨S, h1, h2, h3⟩ := h
  exact ⟨S, h1.kept hs (fun k hk => e k (h1.size k hk) (h3 k hk)), h2, h3⟩
theorem Hy.old {Y : World} (h : Hy B Nt w hb m) (e : Below w.heap.size w Y) : Hy B Nt Y hb m := h.kept e.size fun k hk _ => e.block k hk
/-- new blocks may be left alone, too -/
theorem Hy.more {Nt' : Nat → Prop} (h : Hy B Nt w hb m) (e : ∀ k, Nt' k → Nt k ∨ w.heap.size ≤ k) : Hy B Nt' w hb m := by
  obtain ⟨S, h1, h2, h3⟩ := h
  exact ⟨S, h1, h2, fun k hk hn => (e k hn).elim (h3 k hk) (fun e => by have := h1.size k hk; omega)⟩
theorem Hy.perm {m' : List (K × Int)} (h : Hy B Nt w hb m) (e : m.Perm m') : Hy B Nt w hb m' := by
  obtain ⟨S, h1, h2, h3⟩ := h
  exact ⟨S, h1.perm e, h2, h3⟩
theorem Hy.put (h : Hy B Nt w hb m) (hB : B ≤ w.heap.size) (hN : ∀ k, Nt k → k < w.heap.size) {k : K} (hk : wk k) (r : Int) (hn : m.length < 1000000) :
    Calls Tryz.prog 90 #[.pointer (some ⟨hb, 0, none⟩), ek k, er r] w fun e w' => e = .returned (.bool (decide (k ∈ m.map (·.1)))) ∧ Hy B Nt w' hb (put k r m) ∧ Below B w w' ∧ ∀ k, Nt k → w'.heap[k]? = w.heap[k]? := by
  obtain ⟨S, h1, h2, h3⟩ := h
  refine (put_any h1 hk r hn).mono ?_
  rintro e w' ⟨rfl, h4⟩
  exact ⟨rfl, Hy.of h4 h2 h3 hB hN⟩
theorem Hy.nodup (h : Hy B Nt w hb m) : (m.map (·.1)).Nodup := h.elim fun _ h => h.1.nodup
theorem Hy.keys (h : Hy B Nt w hb m) : ∀ x ∈ m, wk x.1 := h.elim fun _ h => h.1.keys
theorem Hy.lenAt (h : Hy B Nt w hb m) : lenAt hb w = m.length := h.elim fun _ h => h.1.lenAt
end
theorem new_y (w : World) (Nt : Nat → Prop) (hN : ∀ k, Nt k → k < w.heap.size) : Calls Tryz.prog 89 #[] w fun e w' => e = .returned (.pointer (some ⟨w.heap.size, 0, none⟩)) ∧ Hy w.heap.size Nt w' w.heap.size [] ∧ Below w.heap.size w w' := by
  refine (new_v w).mono ?_
  rintro e w' ⟨rfl, h1, h2⟩
  exact ⟨rfl, ⟨_, h1, fun k hk => Nat.le_of_eq hk.symm, fun k hk hn => by have := hN k hn; omega⟩, h2⟩
theorem cut_length {k : K} {m : List (K × Int)} (hn : (m.map (·.1)).Nodup) (h : k ∈ m.map (·.1)) : (cut k m).length + 1 = m.length := by
  obtain ⟨p, hp, rfl⟩ := List.mem_map.1 h
  obtain ⟨i, hi, rfl⟩ := mem_el hp
  have := (set_cut hi hn 0).length_eq
  simp at this
  omega
theorem put_length {k : K} {r : Int} {m : List (K × Int)} (hn : (m.map (·.1)).Nodup) : (put k r m).length = if k ∈ m.map (·.1) then m.length else m.length + 1 := by
  unfold put
  split
  · rename_i h; have := cut_length hn h; simp; omega
  · rename_i h; rw [cut_not h]; simp
/-- a map that tells the last rank of each key -/
def Tl (f : K → Option Int) (m : List (K × Int)) : Prop := ∀ q r, f q = some r ↔ (q, r) ∈ m
theorem Tl.put {f : K → Option Int} {m : List (K × Int)} (h : Tl f m) (k : K) (r : Int) : Tl (upd f k r) (put k r m) := by
  intro q s
  unfold upd HpE.put
  rw [List.mem_cons]
  by_cases e : q = k
  · rw [if_pos e]
    constructor
    · intro e2; obtain rfl := Option.some.inj e2; exact .inl (by rw [e])
    · rintro (e2 | e2)
      · rw [(Prod.mk.inj e2).2]
      · exact absurd e (mem_cut.1 e2).2
  · rw [if_neg e, h q s]
    constructor
    · intro e2; exact .inr (mem_cut.2 ⟨e2, e⟩)
    · rintro (e2 | e2)
      · exact absurd (Prod.mk.inj e2).1 e
      · exact (mem_cut.1 e2).1
theorem Tl.some {f : K → Option Int} {m : List (K × Int)} (h : Tl f m) (k : K) : (f k).isSome = decide (k ∈ m.map (·.1)) := by
  cases e : f k with
  | none =>
    have : k ∉ m.map (·.1) := fun hm => by
      obtain ⟨⟨q, r⟩, hp, rfl⟩ := List.mem_map.1 hm
      rw [(h q r).2 hp] at e; cases e
    exact (decide_eq_false this).symm
  | some r => exact (decide_eq_true (List.mem_map.2 ⟨_, (h k r).1 e, rfl⟩)).symm
end Go.Proofs.YtcodjknhnhdkfaaGreatDoor.HpE
namespace Go.Proofs.YtcodjknhnhdkfaaGreatDoor.HpE
open Go.RowKit Go.Lib Go.Sort Hp Rg
set_option linter.unusedVariables false
set_option maxRecDepth 20000
attribute [local go_sem] Oper.semAt_some
theorem place_nil (w : World) (k : K) : Calls Tryz.prog 105 #[.pointer none, ek k] w fun e w' => e = .returned (.tuple #[.int .i64 0, .bool false]) ∧ w' = w := by
  generalize ek k = kv
  go_enter Tryz.func105, Tryz.ntmps105
  go_wp2_with fail
  refine bodyPost_ret (results_tmp2 rfl _ _ _) rfl ?_
  exact ⟨by simp, rfl⟩
theorem put_nil (w : World) (k : K) (r : Int) : Calls Tryz.prog 90 #[.pointer none, ek k, er r] w fun e w' => e = .returned (.bool false) ∧ w' = w := by
  generalize ek k = kv
  generalize er r = rv
  go_enter Tryz.func90, Tryz.ntmps90
  go_wp2_with fail
  go_ret
  exact ⟨by simp, rfl⟩
theorem rank_nil (w : World) (k : K) : Calls Tryz.prog 127 #[.pointer none, ek k] w fun e w' => e = .returned (.tuple #[.int .u64 0, .bool false]) ∧ Below w.heap.size w w' := by
  have hp := place_nil w k
  generalize ek k = kv at *
  go_enter Tryz.func127, Tryz.ntmps127
  go_wp2_with fail
  refine hp.mono ?_
  rintro e w1 ⟨rfl, rfl⟩
  go_wp2_with fail
  refine bodyPost_ret (results_tmp2 rfl _ _ _) rfl ?_
  exact ⟨by simp, (Below.refl _ _).alloc (Nat.le_refl _) _⟩
end Go.Proofs.YtcodjknhnhdkfaaGreatDoor.HpE
