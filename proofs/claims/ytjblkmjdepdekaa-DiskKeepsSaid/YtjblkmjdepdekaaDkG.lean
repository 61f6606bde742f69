
/- a map of rows of texts that the call makes: which slice lies at each key is told by a datum of its own -/
import Derived.Test.YtjblkmjdepdekaaDkK
import Derived.Test.YtjblkmjdepdekaaAo
import Derived.Maps.OwnOps
import Derived.Maps.Views
import Derived.Maps.AppendAt
namespace Go.Proofs.Ytjblkmjdepdekaa.Dk
open Go.RowKit Go.Lib Go.Proofs.Ytjblkmjdepdekaa.By Go.Proofs.Ytjblkmjdepdekaa.Ht
open Go.ChangeMaps Go.MapKept
open Go.Maps (Keyed)

/-- a slice of the call's own, told by numbers -/
def datV : Value → DataW Unit
  | .slice (some ⟨g, _, _⟩) n c => .slice [.lit (.int .i64 (g : Nat)), .lit (.int .i64 (n : Nat)), .lit (.int .i64 (c : Nat))] []
  | _ => .nil
def codeV : Value → Option (DataW Unit × List MemPlace)
  | .slice none 0 0 => some (.nil, [])
  | .slice (some ⟨g, 0, none⟩) n c => some (.slice [.lit (.int .i64 (g : Nat)), .lit (.int .i64 (n : Nat)), .lit (.int .i64 (c : Nat))] [], [])
  | _ => none
theorem code_own {w : World} {B : Nat} {e : TypeId} {k : Nat} {v : Value} {n : Nat} {xs : List Value} (h : w.ownsRow B e k v n xs) : codeV v = some (datV v, []) := by
  rcases h.2 with ⟨rfl, rfl⟩ | ⟨g, cap, cur, rfl, _⟩ <;> rfl
theorem code_inv {w : World} {B : Nat} {e : TypeId} {k : Nat} {u v : Value} {n : Nat} {xs : List Value} {ps : List MemPlace} (h : w.ownsRow B e k v n xs) (hu : codeV u = some (datV v, ps)) : u = v := by
  rcases h.2 with ⟨rfl, rfl⟩ | ⟨g, cap, cur, rfl, _⟩
  · unfold codeV at hu
    split at hu
    · rfl
    · simp [datV] at hu
    · simp at hu
  · unfold codeV at hu
    split at hu
    · simp [datV] at hu
    · rename_i g' n' c'
      simp only [datV, Option.some.injEq, Prod.mk.injEq, DataW.slice.injEq, List.cons.injEq, DataW.lit.injEq, Lit.int.injEq, true_and, and_true] at hu
      obtain ⟨⟨h1, h2, h3⟩, _⟩ := hu
      obtain rfl : g' = g := by omega
      obtain rfl : n' = _ := by exact Int.ofNat_inj.1 h2
      obtain rfl : c' = cap := by omega
      rfl
    · simp at hu

/-- texts in a row of cells -/
def strV (l : List UInt8) : Value := .string ⟨l.toArray⟩
structure Grp (w : World) (b n base : Nat) (vs : Nat → Value) (L : Nat → List (List UInt8)) : Prop where
  map : ∃ D : DataW Unit, w.ownsMap Try.prog 3 codeV b n D ∧ ∀ i : Nat, D.atKey (.int .i64 (i : Nat)) .nil = datV (vs i)
  own : ∀ i, w.ownsRow base 9 1 (vs i) (L i).length ((L i).map strV)
  ap : ∀ i j, i ≠ j → (vs i).ownBlock = none ∨ (vs i).ownBlock ≠ (vs j).ownBlock
  lt : b < base
theorem wf_nat {i : Nat} (h : i ≤ 1000000) : (Lit.int .i64 (i : Nat)).wf = true := by
  simp [Lit.wf, IntKind.min, IntKind.max, IntKind.signed, IntKind.bits]; omega
theorem key_nat {i : Nat} (h : i ≤ 1000000) : keyOf Try.prog 3 (.int .i64 (i : Nat)) = some (.int .i64 (i : Nat)) := Maps.keyOf_int_mk Try.underlying3 (wf_nat h)
theorem keyed : Keyed Try.prog 3 := Maps.int_keyed Try.underlying3
theorem Grp.made (w : World) : Grp (w.alloc (.map #[] 0)) w.heap.size 0 (w.heap.size + 1) (fun _ => .slice none 0 0) (fun _ => []) :=
  ⟨⟨_, World.ownsMap_made w _ _ _, fun _ => rfl⟩, fun _ => World.ownsRow_nil _ _ _ _, fun _ _ _ => .inl rfl, Nat.lt_succ_self _⟩
theorem Grp.look' {w Y : World} {b n base : Nat} {vs : Nat → Value} {L : Nat → List (List UInt8)} (h : Grp w b n base vs L) (hY : Y.heap[b]? = w.heap[b]?) (hz : ∀ w, (zeroValue 34).run Try.prog w = .ok (.slice none 0 0) w) {i : Nat} (hi : i ≤ 1000000) :
    (Instr.lookup 29 (.map (some b)) (.int .i64 (i : Nat)) false).run Try.prog Y = .ok (vs i) Y := by
  obtain ⟨D, ⟨es, clock, h1, h2⟩, hD⟩ := h.map
  have hm : Y.ownsMap Try.prog 3 codeV b n D := ⟨es, clock, hY.trans h1, h2⟩
  obtain ⟨v, ps, hr, hv⟩ := hm.lookup keyed Try.underlying29 (hz Y) (z := .slice none 0 0) (zd := .nil) (zp := []) rfl (key_nat hi)
  rw [hD i] at hv
  rw [code_inv (h.own i) hv] at hr
  exact hr
/-- what lies below stays, and what is not the disk's -/
theorem Grp.kept {w w' : World} {b n base : Nat} {vs : Nat → Value} {L : Nat → List (List UInt8)} (h : Grp w b n base vs L) (hm : w'.heap[b]? = w.heap[b]?) (ho : ∀ i g, (vs i).ownBlock = some g → w'.heap[g]? = w.heap[g]?) : Grp w' b n base vs L := by
  obtain ⟨D, ⟨es, clock, h1, h2⟩, hD⟩ := h.map
  exact ⟨⟨D, ⟨es, clock, hm.trans h1, h2⟩, hD⟩, fun i => own_other (h.own i) (ho i), h.ap, h.lt⟩
theorem Grp.old {w w' : World} {b n base : Nat} {vs : Nat → Value} {L : Nat → List (List UInt8)} (h : Grp w b n base vs L) (hb : Below w.heap.size w w') : Grp w' b n base vs L := by
  obtain ⟨D, hm, hD⟩ := h.map
  exact h.kept (hb.block _ hm.lt) fun i g hg => hb.block g ((h.own i).lt g hg).2
/-- 'm[k] = append(m[k], x)': the store -/
theorem Grp.put {w w1 : World} {b n base : Nat} {vs : Nat → Value} {L : Nat → List (List UInt8)} (h : Grp w b n base vs L) (hn : n ≤ 1000000) {i : Nat} (hi : i ≤ 1000000) {v' : Value} {x : List UInt8}
    (hg : w.grownBy w1 (vs i).ownBlock) (ho : w1.ownsRow base 9 1 v' ((L i).length + 1) ((L i).map strV ++ [strV x])) (hl : v'.ownBlock = (vs i).ownBlock ∨ ∃ g, v'.ownBlock = some g ∧ w.heap.size ≤ g) :
    ∃ w2, (Instr.mapUpdate 29 (.map (some b)) (.int .i64 (i : Nat)) v').run Try.prog w1 = .ok () w2 ∧ Grp w2 b (n + 1) base (fun j => if j = i then v' else vs j) (fun j => if j = i then L i ++ [x] else L j) ∧ w1.grownBy w2 (some b) := by
  obtain ⟨D, hm, hD⟩ := h.map
  have hbne : some b ≠ (vs i).ownBlock := fun e => by have := ((h.own i).lt b e.symm).1; have := h.lt; omega
  have hm1 := hm.kept hg hbne
  obtain ⟨w2, hr, hm2, hg2⟩ := hm1.update keyed Try.underlying29 (by unfold maxLen; omega) (key_nat hi) (code_own ho)
  have own_b : ∀ {v : Value} {m : Nat} {xs : List Value} {W : World}, W.ownsRow base 9 1 v m xs → v.ownBlock = none ∨ v.ownBlock ≠ some b := fun {v m xs W} hv => by
    cases hu : v.ownBlock with
    | none => exact .inl rfl
    | some g => exact .inr fun e => by have := (hv.lt g hu).1; have := h.lt; cases e; omega
  refine ⟨w2, hr, ⟨⟨_, hm2, fun j => ?_⟩, fun j => ?_, fun j k hjk => ?_, h.lt⟩, hg2⟩
  · by_cases e : j = i
    · subst e
      rw [if_pos rfl, Maps.atKey_put_same hm1.isMap (by trivial)]
    · rw [if_neg e, Maps.atKey_put_other (by simp; omega)]
      exact hD j
  · by_cases e : j = i
    · subst e
      simp only [if_pos]
      rw [List.length_append, List.map_append]
      exact ho.kept hg2 (own_b ho)
    · rw [if_neg e, if_neg e]
      exact ((h.own j).kept hg (h.ap j i e)).kept hg2 (own_b (h.own j))
  · by_cases e1 : j = i
    · by_cases e2 : k = i
      · omega
      · subst e1
        rw [if_pos rfl, if_neg e2]
        rcases hl with hl | ⟨g, hl, hlg⟩
        · rw [hl]; exact h.ap j k hjk
        · rw [hl]
          exact .inr fun e => by have := ((h.own k).lt g e.symm).2; omega
    · by_cases e2 : k = i
      · subst e2
        rw [if_pos rfl, if_neg e1]
        rcases hl with hl | ⟨g, hl, hlg⟩
        · rw [hl]; exact h.ap j k hjk
        · rw [hl]
          cases hu : (vs j).ownBlock with
          | none => exact .inl rfl
          | some g' => exact .inr fun e => by have := ((h.own j).lt g' hu).2; cases e; omega
      · rw [if_neg e1, if_neg e2]; exact h.ap j k hjk
end Go.Proofs.Ytjblkmjdepdekaa.Dk
