/- a range over a map, its steps bundled, so that a walk leaves them whole (of no program) -/
import Derived.Test.YtcodjknhnhdkfaaGreatDoorBrMv
import Derived.WideKeyEntry
namespace Go.Proofs.YtcodjknhnhdkfaaGreatDoor.Mv
open Go.RowKit Go.Maps Go.WideElems Go.ChangeMaps Go.MapKept
set_option linter.unusedVariables false
/-- all were told -/
def Done {K : Type} (wk : K → Prop) (f : K → Option Value) (es : List K) : Prop := ∀ k, wk k → (f k).isSome = true → k ∈ es
/-- one more is told -/
structure More (P : Program) (tk : TypeId) {K : Type} (ek : K → Value) (wk : K → Prop) (w : World) (b r : Nat) (f : K → Option Value) (es : List K) (cnt : Nat) where
  k : K
  v : Value
  w' : World
  cnt' : Nat
  ok : wk k
  is : f k = some v
  new : k ∉ es
  rg : Rgs P tk ek wk w' b r f (es ++ [k]) cnt'
  lt : cnt' < cnt
  grown : w.grownBy w' (some r)
  size : w'.heap.size = w.heap.size
section
variable {P : Program} {t tk te : TypeId} {z : Value} {K : Type} [DecidableEq K] {ek : K → Value} {wk : K → Prop}
variable {ops : Array Oper} {rest : List Oper} {o : Oper} {a : Act} {Q : Exit → Act → World → Prop}
theorem wpList_nextQ (κ : Kind P t tk te z ek wk) (w : World) (hg : o.guard = none) (it : Operand) (hop : o.op = Op.next it false) (b r : Nat) (f : K → Option Value) (es : List K) (cnt : Nat)
    (hit : a.eval it = .pointer (some ⟨r, 0, none⟩)) (h : Rgs P tk ek wk w b r f es cnt)
    (hDone : Done wk f es → wpList P ops Q rest (a.put o.dst (.tuple #[.bool false])) w)
    (hMore : ∀ q : More P tk ek wk w b r f es cnt, (Instr.entry (.pointer (some ⟨r, 0, none⟩))).run P q.w' = .ok (.tuple #[ek q.k, q.v]) q.w' → wpList P ops Q rest (a.put o.dst (.tuple #[.bool true, ek q.k, q.v])) q.w') :
    wpList P ops Q (o :: rest) a w :=
  wpList_next κ w hg it hop b r f es cnt hit h hDone fun k v w' cnt' h1 h2 h3 h4 h5 h6 h7 h8 => hMore ⟨k, v, w', cnt', h1, h2, h3, h4, h5, h6, h7⟩ h8
end
end Go.Proofs.YtcodjknhnhdkfaaGreatDoor.Mv
namespace Go.Proofs.YtcodjknhnhdkfaaGreatDoor.Mv
open Go.RowKit Go.Maps Go.WideElems Go.ChangeMaps Go.MapKept
set_option linter.unusedVariables false
set_option linter.unusedSectionVars false
/-- an entry's stamp -/
def St (w : World) (b : Nat) (v : Value) (st : Nat) : Prop := ∃ (es : Array MapEntry) (clock j : Nat) (e0 : MapEntry), w.heap[b]? = some (.map es clock) ∧ es.toList[j]? = some e0 ∧ e0.key = v ∧ e0.born = st
section
variable {P : Program} {t tk te : TypeId} {z : Value} {K : Type} [DecidableEq K] {ek : K → Value} {wk : K → Prop}
/-- the entry of a key that is there -/
theorem Mp.entry (κ : Kind P t tk te z ek wk) {w : World} {b n : Nat} {f : K → Option Value} (h : Mp P tk ek wk w b n f) {k : K} (hk : wk k) (hf : (f k).isSome = true) :
    ∃ st v0, St w b (ek k) st ∧ (Instr.mapEntry t (.map (some b)) (ek k)).run P w = .ok (.tuple #[v0, goInt st]) w := by
  obtain ⟨D, ⟨es, clock, hb, F, hsz, rfl⟩, hn, hD⟩ := h
  rcases κ.keyed.find w (κ.at hk) es.toList F.keys with ⟨h1, h2⟩ | ⟨j, e0, h1, h2, h3⟩
  · exfalso
    have hl := Maps.fit_look true κ.keyed κ.map (κ.zero w) hb F (κ.at hk)
    rcases hl with ⟨_, _, hat⟩ | ⟨e0, y, hm, he, _⟩
    · have := has_of κ (hD k hk)
      rw [Maps.has_false_of_atKey hat, hf] at this
      cases this
    · exact h2 e0 hm he
  · have hj : es[j]? = some e0 := by simpa using h2
    have hsame : es.modify j (fun e => { e with key := ek k }) = es := by
      apply Array.ext'
      rw [Array.toList_modify, modify_eq_set _ _ _ _ h2]
      have : ({ e0 with key := ek k } : MapEntry) = e0 := by rw [← h3]
      rw [this]
      exact set_self _ _ _ h2
    have hset : ChangeMaps.setBlock w b (.map es clock) = w := by
      unfold ChangeMaps.setBlock
      have hlt := (Array.getElem?_eq_some_iff.1 hb).1
      have : w.heap.set! b (.map es clock) = w.heap := by
        refine Array.ext_getElem? fun i => ?_
        rw [Array.set!_eq_setIfInBounds, Array.getElem?_setIfInBounds]
        split
        · rename_i e; subst e; rw [hb]; try rw [if_pos hlt]
        · rfl
      first | rw [this] | (show { w with heap := w.heap.set! b (.map es clock) } = w; rw [this])
    refine ⟨e0.born, e0.val, ⟨es, clock, j, e0, hb, h2, h3, rfl⟩, ?_⟩
    have hrun : (Instr.mapEntry t (.map (some b)) (ek k)).run P w = .ok (.tuple #[e0.val, goInt e0.born]) (ChangeMaps.setBlock w b (.map es clock)) := by
      simp [Instr.mapEntry, run_underlying κ.map, MapKept.run_getObj_map hb, κ.keyed.check w false (κ.at hk), h1, hj, h3, κ.keyed.stays w (κ.at hk), hsame, MapKept.run_setObj_map _ hb, Result.andThen, ChangeMaps.setBlock]
    rw [hrun, hset]
theorem Mp.store (κ : Kind P t tk te z ek wk) {w : World} {b n : Nat} {f : K → Option Value} (h : Mp P tk ek wk w b n f) (hn : n < maxLen) {k : K} (hk : wk k) (hf : (f k).isSome = true) {st : Nat} (hst : St w b (ek k) st)
    (x : Value) :
    ∃ w2, (Instr.entryStore t (.map (some b)) (goInt st) x).run P w = .ok () w2 ∧ Mp P tk ek wk w2 b n (upd f k x) ∧ w.grownBy w2 (some b) ∧ ∀ v s, St w b v s → St w2 b v s := by
  obtain ⟨w2, hr, hm2, hg2, _⟩ := h.put κ hn hk x
  rw [hf, if_pos rfl] at hm2
  refine ⟨w2, ?_, hm2, hg2, ?_⟩
  all_goals
    obtain ⟨D, ⟨es, clock, hb, F, hsz, rfl⟩, hn, hD⟩ := h
    obtain ⟨es2, clock2, j, e0, hb2, hj2, h3, h4⟩ := hst
    rw [hb] at hb2
    obtain ⟨rfl, rfl⟩ := Obj.map.inj (Option.some.inj hb2)
    obtain ⟨s1, s2, s3⟩ := F.stamped
    have hj : es[j]? = some e0 := by simpa using hj2
    have hfind : (Instr.findKey tk (ek k) es.toList).run P w = .ok (some (j, e0.val)) w := by
      rcases κ.keyed.find w (κ.at hk) es.toList F.keys with ⟨_, h2⟩ | ⟨j', e', h1, h2, h5⟩
      · exact absurd h3 (h2 e0 (List.mem_of_getElem? hj2))
      · have hjj : j' = j := by
          have hp := ((Go.MapKept.stamped_iff es clock).1 F.stamped).2.2
          rw [List.pairwise_iff_getElem] at hp
          obtain ⟨l1, g1⟩ := List.getElem?_eq_some_iff.1 h2
          obtain ⟨l2, g2⟩ := List.getElem?_eq_some_iff.1 hj2
          rcases Nat.lt_trichotomy j' j with hlt | heq | hgt
          · exact absurd (by rw [g1, g2, h5, h3]) (hp j' j l1 l2 hlt)
          · exact heq
          · exact absurd (by rw [g1, g2, h5, h3]) (hp j j' l2 l1 hgt)
        subst hjj
        rw [hj2] at h2
        obtain rfl := Option.some.inj h2
        exact h1
    have hrun : (Instr.mapUpdate t (.map (some b)) (ek k) x).run P w = .ok () (ChangeMaps.setBlock w b (.map (es.modify j fun e' => { e' with key := ek k, val := x }) clock)) := by
      simp [Instr.mapUpdate, run_underlying κ.map, MapKept.run_getObj_map hb, κ.keyed.check w false (κ.at hk), hfind, hj, h3, κ.keyed.stays w (κ.at hk), MapKept.run_setObj_map _ hb, Result.andThen, ChangeMaps.setBlock]
    rw [hr] at hrun
    obtain ⟨_, rfl⟩ := Result.ok.inj hrun
    have hmod : es.modify j (fun e => { e with val := x }) = es.modify j (fun e' => { e' with key := ek k, val := x }) := by
      apply Array.ext'
      rw [Array.toList_modify, Array.toList_modify, modify_eq_set _ _ _ _ hj2, modify_eq_set _ _ _ _ hj2, ← h3]
  · have hidx : es.findIdx? (fun e => ((e.born : Nat) : Int) == ((st : Nat) : Int)) = some j := by
      rw [findIdx_arr, ← h4]
      exact findIdx_born s2 hj2
    simp [Instr.entryStore, MapKept.run_getObj_map hb, asInt, asIntOf, goInt, hidx, hmod, MapKept.run_setObj_map _ hb, Result.andThen, ChangeMaps.setBlock]
  · rintro v s ⟨es3, clock3, j3, e3, hb3, hj3, h5, h6⟩
    rw [hb] at hb3
    obtain ⟨rfl, rfl⟩ := Obj.map.inj (Option.some.inj hb3)
    by_cases e : j3 = j
    · subst e
      rw [hj2] at hj3
      obtain rfl := Option.some.inj hj3
      exact ⟨_, clock, j3, { e0 with key := ek k, val := x }, heap_setBlock_same hb _, by rw [Array.toList_modify, modify_eq_set _ _ _ _ hj2, List.getElem?_set_self (List.getElem?_eq_some_iff.1 hj2).1], h3 ▸ h5, h6⟩
    · exact ⟨_, clock, j3, e3, heap_setBlock_same hb _, by rw [Array.toList_modify, modify_eq_set _ _ _ _ hj2, List.getElem?_set_ne (fun e2 => e e2.symm)]; exact hj3, h5, h6⟩
end
end Go.Proofs.YtcodjknhnhdkfaaGreatDoor.Mv
