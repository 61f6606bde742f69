
/- a map of integers, told by a function of its keys (of no program) -/
import Derived.Test.YtcodjknhnhdkfaaDoorHpM
import Derived.WalkKit
import Derived.Maps.OwnSet
import Derived.Maps.Views
import Derived.WideKeyEntry
namespace Go.Proofs.YtcodjknhnhdkfaaDoor.Hp
open Go.RowKit Go.Maps Go.WideElems Go.ChangeMaps Go.MapKept
set_option linter.unusedVariables false
set_option linter.unusedSectionVars false

/-- a map's type: its key's, its element's (an integer's), how a key lies -/
structure Kind (P : Program) (t tk te : TypeId) (q : IntKind) {K : Type} (ek : K → Value) (kl : K → Lit) (wk : K → Prop) : Prop where
  map : P.underlying t = some (.map tk te)
  elem : P.underlying te = some (.int q)
  zero : ∀ w, (zeroValue te).run P w = .ok (.int q 0) w
  keyed : Keyed P tk
  key : ∀ k, wk k → keyOf P tk (ek k) = some (kl k)
  inj : ∀ k k', kl k = kl k' → k = k'
def Mp (P : Program) (tk te : TypeId) (q : IntKind) {K : Type} (kl : K → Lit) (wk : K → Prop) (w : World) (b n : Nat) (f : K → Option Int) : Prop :=
  ∃ D : DataW Unit, w.ownsMap P tk (plainElem P te) b n D ∧ Maps.size D = n ∧ ∀ k, wk k → ∀ z, D.atKey (kl k) z = match f k with | some i => .lit (.int q i) | none => z
/-- an entry's stamp -/
def St (w : World) (b : Nat) (v : Value) (st : Nat) : Prop := ∃ (es : Array MapEntry) (clock j : Nat) (e0 : MapEntry), w.heap[b]? = some (.map es clock) ∧ es.toList[j]? = some e0 ∧ e0.key = v ∧ e0.born = st
section
variable {P : Program} {t tk te : TypeId} {q : IntKind} {K : Type} [DecidableEq K] {ek : K → Value} {kl : K → Lit} {wk : K → Prop}
theorem exact {w : World} {b n : Nat} {D : DataW Unit} {k : TypeId} {R : Value → Option (DataW Unit × List MemPlace)} (h : w.ownsMap P k R b n D) : w.ownsMap P k R b (Maps.size D) D := by
  obtain ⟨es, clock, hb, F, hs, rfl⟩ := h
  exact ⟨es, clock, hb, F, by simp [Maps.size, length_sorted], rfl⟩
theorem mp_made (κ : Kind P t tk te q ek kl wk) (w : World) : Mp P tk te q kl wk (w.alloc (.map #[] 0)) w.heap.size 0 (fun _ => none) :=
  ⟨.map [], World.ownsMap_made w _ _ _, rfl, fun _ _ _ => rfl⟩
theorem Mp.congr {w : World} {b n : Nat} {f g : K → Option Int} (h : Mp P tk te q kl wk w b n f) (e : ∀ k, wk k → f k = g k) : Mp P tk te q kl wk w b n g := by
  obtain ⟨D, h1, h2, h3⟩ := h
  exact ⟨D, h1, h2, fun k hk z => by rw [← e k hk]; exact h3 k hk z⟩
theorem Mp.kept {w Y : World} {b n : Nat} {f : K → Option Int} (h : Mp P tk te q kl wk w b n f) (e : Y.heap[b]? = w.heap[b]?) : Mp P tk te q kl wk Y b n f := by
  obtain ⟨D, ⟨es, clock, h1, h2⟩, h3⟩ := h
  exact ⟨D, ⟨es, clock, e.trans h1, h2⟩, h3⟩
theorem Mp.at {w : World} {b n : Nat} {f : K → Option Int} (h : Mp P tk te q kl wk w b n f) : ∃ es clock, w.heap[b]? = some (.map es clock) := by
  obtain ⟨D, ⟨es, clock, h1, _⟩, _⟩ := h
  exact ⟨es, clock, h1⟩
theorem Mp.lt {w : World} {b n : Nat} {f : K → Option Int} (h : Mp P tk te q kl wk w b n f) : b < w.heap.size := by
  obtain ⟨es, c, e⟩ := h.at
  exact (Array.getElem?_eq_some_iff.1 e).1
theorem has_of (κ : Kind P t tk te q ek kl wk) {D : DataW Unit} {f : K → Option Int} {k : K} (h : ∀ z, D.atKey (kl k) z = match f k with | some i => .lit (.int q i) | none => z) : Maps.has D (kl k) = (f k).isSome := by
  cases e : f k with
  | none => rw [e] at h; exact Maps.has_false_of_atKey h
  | some i => rw [e] at h; exact Maps.has_true_of_atKey h
theorem Mp.look (κ : Kind P t tk te q ek kl wk) {w Y : World} {b n : Nat} {f : K → Option Int} (h : Mp P tk te q kl wk w b n f) (e : Y.heap[b]? = w.heap[b]?) {k : K} (hk : wk k) :
    (Instr.lookup t (.map (some b)) (ek k) true).run P Y = .ok (.tuple #[.int q ((f k).getD 0), .bool (f k).isSome]) Y := by
  obtain ⟨D, hm, hn, hD⟩ := h.kept e
  have hw0 : (Lit.int q 0).wf = true := by cases q <;> decide
  obtain ⟨v, ps, hr, hv⟩ := hm.look_ok κ.keyed κ.map (κ.zero Y) (plainElem_int κ.elem hw0) (κ.key k hk)
  rw [has_of κ (hD k hk)] at hr
  rw [hD k hk] at hv
  obtain ⟨c, rfl, hc, _⟩ := plainElem_int_inv κ.elem hv
  cases e : f k with
  | none => rw [e] at hr hc; simp only [Prod.mk.injEq, DataW.lit.injEq, Lit.int.injEq] at hc; rw [hr, ← hc.1.2]; rfl
  | some i => rw [e] at hr hc; simp only [Prod.mk.injEq, DataW.lit.injEq, Lit.int.injEq] at hc; rw [hr, ← hc.1.2]; rfl
theorem Mp.look1 (κ : Kind P t tk te q ek kl wk) {w Y : World} {b n : Nat} {f : K → Option Int} (h : Mp P tk te q kl wk w b n f) (e : Y.heap[b]? = w.heap[b]?) {k : K} (hk : wk k) :
    (Instr.lookup t (.map (some b)) (ek k) false).run P Y = .ok (.int q ((f k).getD 0)) Y := by
  obtain ⟨D, hm, hn, hD⟩ := h.kept e
  have hw0 : (Lit.int q 0).wf = true := by cases q <;> decide
  obtain ⟨c, hr, hat, _⟩ := hm.lookup_int κ.keyed κ.map κ.elem (κ.zero Y) (κ.key k hk)
  rw [hD k hk] at hat
  cases e : f k with
  | none => rw [e] at hat; simp only [DataW.lit.injEq, Lit.int.injEq] at hat; rw [hr, ← hat.2]; rfl
  | some i => rw [e] at hat; simp only [DataW.lit.injEq, Lit.int.injEq] at hat; rw [hr, ← hat.2]; rfl
theorem look_nil (κ : Kind P t tk te q ek kl wk) (Y : World) {k : K} (hk : wk k) : (Instr.lookup t (.map none) (ek k) true).run P Y = .ok (.tuple #[.int q 0, .bool false]) Y := by
  have hf : (Instr.findKey tk (ek k) []).run P Y = .ok none Y := by
    rcases κ.keyed.find Y (κ.key k hk) [] (by simp) with ⟨h1, _⟩ | ⟨j, e, _, h2, _⟩
    · exact h1
    · simp at h2
  simp [Instr.lookup, run_underlying κ.map, κ.keyed.check Y _ (κ.key k hk), hf, κ.zero Y, Result.andThen]
theorem Mp.upd {w' : World} (κ : Kind P t tk te q ek kl wk) {b m : Nat} {D : DataW Unit} {f : K → Option Int} {k : K} {x : Int} (hD : ∀ k, wk k → ∀ z, D.atKey (kl k) z = match f k with | some i => .lit (.int q i) | none => z) (hk : wk k)
    (hI : Maps.Tidy D) (hl : WideAt.IsKeyLit (kl k)) (h : w'.ownsMap P tk (plainElem P te) b m (D.put (kl k) (.lit (.int q x)))) :
    Mp P tk te q kl wk w' b (if (f k).isSome then Maps.size D else Maps.size D + 1) (upd f k x) := by
  have hs := Maps.size_put (k := kl k) hI (.lit (.int q x))
  rw [has_of κ (hD k hk)] at hs
  refine ⟨_, hs ▸ exact h, hs, fun k' hk' z => ?_⟩
  unfold Hp.upd
  by_cases e : k' = k
  · rw [if_pos e, e, Maps.atKey_put_same hI.isMap hl]
  · rw [if_neg e, Maps.atKey_put_other (fun e2 => e (κ.inj _ _ e2)), hD k' hk' z]
theorem Mp.put (κ : Kind P t tk te q ek kl wk) {w : World} {b n : Nat} {f : K → Option Int} (h : Mp P tk te q kl wk w b n f) (hn : n < maxLen) {k : K} (hk : wk k) {x : Int} (hx : (Lit.int q x).wf = true) :
    ∃ w2, (Instr.mapUpdate t (.map (some b)) (ek k) (.int q x)).run P w = .ok () w2 ∧ Mp P tk te q kl wk w2 b (if (f k).isSome then n else n + 1) (Hp.upd f k x) ∧ w.grownBy w2 (some b) := by
  obtain ⟨D, hm, hsz, hD⟩ := h
  obtain ⟨w2, hr, hm2, hg2⟩ := hm.update κ.keyed κ.map hn (κ.key k hk) (plainElem_int κ.elem hx)
  refine ⟨w2, hr, ?_, hg2⟩
  rw [← hsz]
  exact Mp.upd κ hD hk (hm.tidy κ.keyed) (κ.keyed.key (κ.key k hk)) hm2
theorem Mp.drop (κ : Kind P t tk te q ek kl wk) {w : World} {b n : Nat} {f : K → Option Int} (h : Mp P tk te q kl wk w b n f) {k : K} (hk : wk k) (hf : (f k).isSome = true) (ty : TypeId) :
    ∃ w2, (Builtin.delete_ #[t, tk] ty #[.map (some b), ek k]).run P w = .ok (.tuple #[]) w2 ∧ Mp P tk te q kl wk w2 b (n - 1) (del f k) ∧ w.grownBy w2 (some b) := by
  obtain ⟨D, hm, hsz, hD⟩ := h
  obtain ⟨w2, hr, hm2, es, clock, es2, clock2, hb, rfl⟩ := hm.drop κ.keyed κ.map (κ.key k hk) ty
  have hs := Maps.size_del (k := kl k) (hm.tidy κ.keyed)
  rw [has_of κ (hD k hk), hf, if_pos rfl] at hs
  have hs2 : Maps.size (D.del (kl k)) = n - 1 := by omega
  refine ⟨_, hr, ⟨_, hs2 ▸ exact hm2, hs2, fun k' hk' z => ?_⟩, ⟨rfl, rfl, rfl, by simp [ChangeMaps.setBlock], fun i _ hi => heap_setBlock_other hb _ (fun e => hi (by rw [e]))⟩⟩
  unfold del
  by_cases e : k' = k
  · rw [if_pos e, e, Maps.atKey_del_same]
  · rw [if_neg e, Maps.atKey_del_other (fun e2 => e (κ.inj _ _ e2)), hD k' hk' z]
theorem Mp.len (κ : Kind P t tk te q ek kl wk) {w Y : World} {b n : Nat} {f : K → Option Int} (h : Mp P tk te q kl wk w b n f) (e : Y.heap[b]? = w.heap[b]?) (ty : TypeId) : (Builtin.len_ #[t] ty #[.map (some b)]).run P Y = .ok (.int .i64 (n : Nat)) Y := by
  obtain ⟨D, hm, hsz, hD⟩ := h.kept e
  rw [← hsz]
  exact hm.len κ.map ty
/-- the entry of a key that is there -/
theorem Mp.entry (κ : Kind P t tk te q ek kl wk) {w : World} {b n : Nat} {f : K → Option Int} (h : Mp P tk te q kl wk w b n f) {k : K} (hk : wk k) (hf : (f k).isSome = true) :
    ∃ st v0, St w b (ek k) st ∧ (Instr.mapEntry t (.map (some b)) (ek k)).run P w = .ok (.tuple #[v0, goInt st]) w := by
  obtain ⟨D, ⟨es, clock, hb, F, hsz, rfl⟩, hn, hD⟩ := h
  rcases κ.keyed.find w (κ.key k hk) es.toList F.keys with ⟨h1, h2⟩ | ⟨j, e0, h1, h2, h3⟩
  · exfalso
    have hl := Maps.fit_look true κ.keyed κ.map (κ.zero w) hb F (κ.key k hk)
    rcases hl with ⟨_, _, hat⟩ | ⟨e0, y, hm, he, _⟩
    · have := has_of κ (hD k hk)
      rw [Maps.has_false_of_atKey hat, hf] at this
      cases this
    · exact h2 e0 hm he
  · have hj : es[j]? = some e0 := by simpa using h2
    have hsame : es.modify j (fun e => { e with key := ek k }) = es := by
      apply Array.ext'
      rw [Array.toList_modify, modify_eq_set _ _ _ _ h2]
      have : ({ e0 with key := ek k } : MapEntry) = e0 := by rw [← h3]
      rw [this]
      exact set_self _ _ _ h2
    have hset : ChangeMaps.setBlock w b (.map es clock) = w := by
      unfold ChangeMaps.setBlock
      have hlt := (Array.getElem?_eq_some_iff.1 hb).1
      have : w.heap.set! b (.map es clock) = w.heap := by
        refine Array.ext_getElem? fun i => ?_
        rw [Array.set!_eq_setIfInBounds, Array.getElem?_setIfInBounds]
        split
        · rename_i e; subst e; rw [hb]; try rw [if_pos hlt]
        · rfl
      first | rw [this] | (show { w with heap := w.heap.set! b (.map es clock) } = w; rw [this])
    refine ⟨e0.born, e0.val, ⟨es, clock, j, e0, hb, h2, h3, rfl⟩, ?_⟩
    have hrun : (Instr.mapEntry t (.map (some b)) (ek k)).run P w = .ok (.tuple #[e0.val, goInt e0.born]) (ChangeMaps.setBlock w b (.map es clock)) := by
      simp [Instr.mapEntry, run_underlying κ.map, MapKept.run_getObj_map hb, κ.keyed.check w false (κ.key k hk), h1, hj, h3, κ.keyed.stays w (κ.key k hk), hsame, MapKept.run_setObj_map _ hb, Result.andThen, ChangeMaps.setBlock]
    rw [hrun, hset]
theorem Mp.store (κ : Kind P t tk te q ek kl wk) {w : World} {b n : Nat} {f : K → Option Int} (h : Mp P tk te q kl wk w b n f) (hn : n < maxLen) {k : K} (hk : wk k) (hf : (f k).isSome = true) {st : Nat} (hst : St w b (ek k) st)
    {x : Int} (hx : (Lit.int q x).wf = true) :
    ∃ w2, (Instr.entryStore t (.map (some b)) (goInt st) (.int q x)).run P w = .ok () w2 ∧ Mp P tk te q kl wk w2 b n (Hp.upd f k x) ∧ w.grownBy w2 (some b) ∧ ∀ v s, St w b v s → St w2 b v s := by
  obtain ⟨w2, hr, hm2, hg2⟩ := h.put κ hn hk hx
  rw [hf, if_pos rfl] at hm2
  refine ⟨w2, ?_, hm2, hg2, ?_⟩
  all_goals
    obtain ⟨D, ⟨es, clock, hb, F, hsz, rfl⟩, hn, hD⟩ := h
    obtain ⟨es2, clock2, j, e0, hb2, hj2, h3, h4⟩ := hst
    rw [hb] at hb2
    obtain ⟨rfl, rfl⟩ := Obj.map.inj (Option.some.inj hb2)
    obtain ⟨s1, s2, s3⟩ := F.stamped
    have hj : es[j]? = some e0 := by simpa using hj2
    have hfind : (Instr.findKey tk (ek k) es.toList).run P w = .ok (some (j, e0.val)) w := by
      rcases κ.keyed.find w (κ.key k hk) es.toList F.keys with ⟨_, h2⟩ | ⟨j', e', h1, h2, h5⟩
      · exact absurd h3 (h2 e0 (List.mem_of_getElem? hj2))
      · have hjj : j' = j := by
          have hp := ((Go.MapKept.stamped_iff es clock).1 F.stamped).2.2
          rw [List.pairwise_iff_getElem] at hp
          obtain ⟨l1, g1⟩ := List.getElem?_eq_some_iff.1 h2
          obtain ⟨l2, g2⟩ := List.getElem?_eq_some_iff.1 hj2
          rcases Nat.lt_trichotomy j' j with hlt | heq | hgt
          · exact absurd (by rw [g1, g2, h5, h3]) (hp j' j l1 l2 hlt)
          · exact heq
          · exact absurd (by rw [g1, g2, h5, h3]) (hp j j' l2 l1 hgt)
        subst hjj
        rw [hj2] at h2
        obtain rfl := Option.some.inj h2
        exact h1
    have hrun : (Instr.mapUpdate t (.map (some b)) (ek k) (.int q x)).run P w = .ok () (ChangeMaps.setBlock w b (.map (es.modify j fun e' => { e' with key := ek k, val := .int q x }) clock)) := by
      simp [Instr.mapUpdate, run_underlying κ.map, MapKept.run_getObj_map hb, κ.keyed.check w false (κ.key k hk), hfind, hj, h3, κ.keyed.stays w (κ.key k hk), MapKept.run_setObj_map _ hb, Result.andThen, ChangeMaps.setBlock]
    rw [hr] at hrun
    obtain ⟨_, rfl⟩ := Result.ok.inj hrun
    have hmod : es.modify j (fun e => { e with val := .int q x }) = es.modify j (fun e' => { e' with key := ek k, val := .int q x }) := by
      apply Array.ext'
      rw [Array.toList_modify, Array.toList_modify, modify_eq_set _ _ _ _ hj2, modify_eq_set _ _ _ _ hj2, ← h3]
  · have hidx : es.findIdx? (fun e => ((e.born : Nat) : Int) == ((st : Nat) : Int)) = some j := by
      rw [findIdx_arr, ← h4]
      exact findIdx_born s2 hj2
    simp [Instr.entryStore, MapKept.run_getObj_map hb, asInt, asIntOf, goInt, hidx, hmod, MapKept.run_setObj_map _ hb, Result.andThen, ChangeMaps.setBlock]
  · rintro v s ⟨es3, clock3, j3, e3, hb3, hj3, h5, h6⟩
    rw [hb] at hb3
    obtain ⟨rfl, rfl⟩ := Obj.map.inj (Option.some.inj hb3)
    by_cases e : j3 = j
    · subst e
      rw [hj2] at hj3
      obtain rfl := Option.some.inj hj3
      exact ⟨_, clock, j3, { e0 with key := ek k, val := .int q x }, heap_setBlock_same hb _, by rw [Array.toList_modify, modify_eq_set _ _ _ _ hj2, List.getElem?_set_self (List.getElem?_eq_some_iff.1 hj2).1], h3 ▸ h5, h6⟩
    · exact ⟨_, clock, j3, e3, heap_setBlock_same hb _, by rw [Array.toList_modify, modify_eq_set _ _ _ _ hj2, List.getElem?_set_ne (fun e2 => e e2.symm)]; exact hj3, h5, h6⟩
end
end Go.Proofs.YtcodjknhnhdkfaaDoor.Hp
