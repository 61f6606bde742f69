
/- ReadyPlays: a row beside the law's model -/
import Derived.Test.YtomkefaakgodhaaNxS2
import Derived.Test.YtomkefaakgodhaaNxS3
namespace Go.Proofs.Ytomkefaakgodhaa.Nx
open Go.RowKit Go.Lib Go.Sort Go.Shelf Hp HpE Ht
set_option linter.unusedVariables false
set_option linter.unusedSectionVars false
set_option maxRecDepth 20000
/-- a row with blocks from B on, none of Nt -/
def Rz (B : Nat) (Nt : Nat → Prop) (X : World) (rb : Nat) (M : List O) : Prop := ∃ S, Rv S X rb M ∧ ∀ k, S k → B ≤ k ∧ ¬ Nt k
section
variable {B : Nat} {Nt : Nat → Prop} {X Y : World} {rb : Nat} {M : List O}
theorem Rz.old (h : Rz B Nt X rb M) (e : Below X.heap.size X Y) : Rz B Nt Y rb M := by
  obtain ⟨S, h1, h2⟩ := h
  exact ⟨S, h1.old e, h2⟩
theorem Rz.also {Nt' : Nat → Prop} (h : Rz B Nt X rb M) (e : ∀ k, Nt' k → Nt k ∨ X.heap.size ≤ k) : Rz B Nt' X rb M := by
  obtain ⟨S, h1, h2⟩ := h
  exact ⟨S, h1, fun k hk => ⟨(h2 k hk).1, fun hn => (e k hn).elim (h2 k hk).2 (fun e => by have := h1.size k hk; omega)⟩⟩
theorem Rz.fr (h : Rz B Nt X rb M) (e : Fr Nt X Y) : Rz B Nt Y rb M := by
  obtain ⟨S, h1, h2⟩ := h
  exact ⟨S, h1.fr e fun k hk => (h2 k hk).2, h2⟩
theorem Rz.a (h : Rz B Nt X rb M) (hB : B ≤ X.heap.size) (hN : ∀ k, Nt k → k < X.heap.size) :
    ∃ S, Rv S X rb M ∧ ∀ Y M2, Rw S X rb Y M2 → Rz B Nt Y rb M2 ∧ Below B X Y ∧ (∀ k, Nt k → Y.heap[k]? = X.heap[k]?) := by
  obtain ⟨S, h1, h2⟩ := h
  refine ⟨S, h1, fun Y M2 ⟨S', g1, g2, g3⟩ => ⟨⟨S', g1, fun k hk => ⟨?_, fun hn => ?_⟩⟩, g2.below hB fun k hk => (h2 k hk).1, fun k hk => g2.block k (hN k hk) fun e => (h2 k e).2 hk⟩⟩
  · rcases g3 k hk with e | e
    · exact (h2 k e).1
    · omega
  · rcases g3 k hk with e | e
    · exact (h2 k e).2 hn
    · have := hN k hn; omega
end
/-- what the law has in memory: a row, a model in a row of its own, the result's box, the ranges' records, other blocks E -/
structure St (w : World) (B b2 rb : Nat) (Ds : List Nat) (E : Nat → Prop) (X : World) (v : Value) (Mr Mv : List O) : Prop where
  r : Rz B (fun k => k ∈ Ds ∨ E k ∨ v.ownBlock = some k) X rb Mr
  o : Oo X B v Mv
  res : ∃ bv, X.heap[b2]? = some (.cells #[.bool bv] 4 (0, 0))
  recs : Recs B X Ds
  e : ∀ k, E k → k < X.heap.size ∧ B ≤ k ∧ v.ownBlock ≠ some k
  lb : b2 < B
  sz : B ≤ X.heap.size
  bel : Below b2 w X
section
variable {w : World} {B b2 rb : Nat} {Ds : List Nat} {E : Nat → Prop} {X Y : World} {v : Value} {Mr Mv : List O}
theorem St.nt (h : St w B b2 rb Ds E X v Mr Mv) : ∀ k, (k ∈ Ds ∨ E k ∨ v.ownBlock = some k) → k < X.heap.size := by
  rintro k (hk | hk | hk)
  · exact h.recs.lt hk
  · exact (h.e k hk).1
  · exact (Nx.own_cell h.o hk).2.1
theorem St.old (h : St w B b2 rb Ds E X v Mr Mv) (e : Below X.heap.size X Y) : St w B b2 rb Ds E Y v Mr Mv where
  r := h.r.old e
  o := Nx.own_kept h.o fun b hb => e.block b (Nx.own_cell h.o hb).2.1
  res := by
    obtain ⟨bv, hb⟩ := h.res
    exact ⟨bv, (e.block b2 (Array.getElem?_eq_some_iff.1 hb).1).trans hb⟩
  recs := h.recs.below e
  e k hk := ⟨Nat.lt_of_lt_of_le (h.e k hk).1 e.size, (h.e k hk).2⟩
  lb := h.lb
  sz := Nat.le_trans h.sz e.size
  bel := h.bel.trans (e.mono (by have := h.lb; have := h.sz; omega))
/-- a new box -/
theorem St.box (h : St w B b2 rb Ds E X v Mr Mv) {O : Obj} {V : World} (hV : V = X.alloc O) : St w B b2 rb Ds (fun k => E k ∨ k = X.heap.size) V v Mr Mv := by
  have bV : Below X.heap.size X V := by rw [hV]; exact (Below.refl _ _).alloc (Nat.le_refl _) _
  have h1 := h.old bV
  refine ⟨(h.r.also fun k hk => ?_).old bV, h1.o, h1.res, h1.recs, fun k hk => ?_, h1.lb, h1.sz, h1.bel⟩
  · rcases hk with hk | (hk | hk) | hk
    · exact .inl (.inl hk)
    · exact .inl (.inr (.inl hk))
    · exact .inr (Nat.le_of_eq hk.symm)
    · exact .inl (.inr (.inr hk))
  · rcases hk with hk | hk
    · exact h1.e k hk
    · exact ⟨by rw [hV]; simp; omega, by have := h.sz; omega, fun e => by have := (Nx.own_cell h.o e).2.1; omega⟩
/-- some of E's blocks are written -/
theorem St.touch (h : St w B b2 rb Ds E X v Mr Mv) {T : Nat → Prop} (e : Fr T X Y) (hT : ∀ k, T k → E k ∧ k ∉ Ds) : St w B b2 rb Ds E Y v Mr Mv := by
  have hlb := h.lb
  have hsz := h.sz
  refine ⟨h.r.fr (e.mono fun k _ hk => .inr (.inl (hT k hk).1)), Nx.own_kept h.o fun b hb => e.block b (Nx.own_cell h.o hb).2.1 (fun hk => (h.e b (hT b hk).1).2.2 hb), ?_, h.recs.kept fun D hD => e.block D (h.recs.lt hD) (fun hk => (hT D hk).2 hD), fun k hk => ⟨Nat.lt_of_lt_of_le (h.e k hk).1 e.size, (h.e k hk).2⟩, h.lb, Nat.le_trans h.sz e.size, h.bel.trans (e.below (by omega) fun k hk => by have := (h.e k (hT k hk).1).2.1; omega)⟩
  obtain ⟨bv, hb⟩ := h.res
  exact ⟨bv, (e.block b2 (by omega) (fun hk => by have := (h.e b2 (hT b2 hk).1).2.1; omega)).trans hb⟩
/-- .. and a range has left its record -/
theorem St.ranged (h : St w B b2 rb Ds E X v Mr Mv) {T : Nat → Prop} (e : Fr T X Y) (hT : ∀ k, T k → E k ∧ k ∉ Ds) {D : Nat} (hD : X.heap.size ≤ D) (hK : Y.heap[D]? = some (.deferred (some []))) : St w B b2 rb (D :: Ds) E Y v Mr Mv := by
  have h1 := h.touch e hT
  refine ⟨?_, h1.o, h1.res, h1.recs.cons hK (by have := h.sz; omega) (fun hm => by have := h.recs.lt hm; omega), h1.e, h1.lb, h1.sz, h1.bel⟩
  refine (h.r.also (Nt' := fun k => k ∈ D :: Ds ∨ E k ∨ v.ownBlock = some k) fun k hk => ?_).fr (e.mono fun k _ hk => .inr (.inl (hT k hk).1))
  rcases hk with hk | hk
  · rcases List.mem_cons.1 hk with rfl | hk
    · exact .inr hD
    · exact .inl (.inl hk)
  · exact .inl (.inr hk)
theorem St.unbox (h : St w B b2 rb Ds E X v Mr Mv) : St w B b2 rb Ds (fun _ => False) X v Mr Mv :=
  ⟨h.r.also fun k hk => .inl (hk.elim .inl fun hk => hk.elim (fun e => e.elim) fun e => .inr (.inr e)), h.o, h.res, h.recs, fun k hk => hk.elim, h.lb, h.sz, h.bel⟩
/-- the row is laid open for a deed -/
theorem St.row (h : St w B b2 rb Ds E X v Mr Mv) : ∃ S, Rv S X rb Mr ∧ ∀ Y M2, Rw S X rb Y M2 → St w B b2 rb Ds E Y v M2 Mv ∧ (∀ k, E k → Y.heap[k]? = X.heap[k]?) ∧ X.heap.size ≤ Y.heap.size := by
  obtain ⟨S, h1, h2⟩ := h.r.a h.sz h.nt
  refine ⟨S, h1, fun Y M2 hw => ?_⟩
  obtain ⟨g1, g2, g3⟩ := h2 Y M2 hw
  have hlb := h.lb
  refine ⟨⟨g1, Nx.own_kept h.o fun b hb => g3 b (.inr (.inr hb)), ?_, h.recs.kept fun D hD => g3 D (.inl hD), fun k hk => ⟨Nat.lt_of_lt_of_le (h.e k hk).1 g2.size, (h.e k hk).2⟩, h.lb, Nat.le_trans h.sz g2.size, h.bel.trans (g2.mono (by omega))⟩, fun k hk => g3 k (.inr (.inl hk)), g2.size⟩
  obtain ⟨bv, hb⟩ := h.res
  exact ⟨bv, (g2.block b2 hlb).trans hb⟩
/-- the model is another one -/
theorem St.model (h : St w B b2 rb Ds E X v Mr Mv) (e : Below X.heap.size X Y) {v' : Value} {M2 : List O} (ho : Oo Y B v' M2) (hv : ∀ b, v'.ownBlock = some b → v.ownBlock = some b ∨ X.heap.size ≤ b) : St w B b2 rb Ds E Y v' Mr M2 := by
  have h1 := h.old e
  exact ⟨(h.r.also fun k hk => by
    rcases hk with hk | hk | hk
    · exact .inl (.inl hk)
    · exact .inl (.inr (.inl hk))
    · exact (hv k hk).elim (fun e => .inl (.inr (.inr e))) .inr).old e, ho, h1.res, h1.recs, fun k hk => ⟨(h1.e k hk).1, (h.e k hk).2.1, fun e2 => (hv k e2).elim (h.e k hk).2.2 (fun e3 => by have := (h.e k hk).1; omega)⟩, h1.lb, h1.sz, h1.bel⟩
/-- one more in the model -/
theorem St.push (h : St w B b2 rb Ds E X v Mr Mv) {O : Obj} {v' : Value} {M2 : List Nx.O} (hg : (X.alloc O).grownBy Y v.ownBlock) (ho : Oo Y B v' M2) (hv : v'.ownBlock = v.ownBlock ∨ v'.ownBlock = some (X.alloc O).heap.size) : St w B b2 rb Ds E Y v' Mr M2 ∧ ∀ k, E k → Y.heap[k]? = X.heap[k]? := by
  have hz := hg.size
  rw [World.size_alloc] at hz
  have hk : ∀ k, k < X.heap.size → v.ownBlock ≠ some k → Y.heap[k]? = X.heap[k]? := fun k hk hn => (hg.block k (by simp; omega) (fun e => hn e.symm)).trans (Below.heap_alloc X O k hk)
  have hB : ∀ b, v.ownBlock = some b → B ≤ b := fun b hb => (Nx.own_cell h.o hb).1
  have hsz := h.sz
  have hlb := h.lb
  refine ⟨⟨?_, ho, ?_, h.recs.kept fun D hD => hk D (h.recs.lt hD) (fun e => ?_), fun k hE => ⟨by have := (h.e k hE).1; omega, (h.e k hE).2.1, fun e2 => ?_⟩, h.lb, by omega, h.bel.trans ⟨hg.os, hg.tape, hg.output, by omega, fun k hk2 => hk k (by omega) (fun e => by have := hB k e; omega)⟩⟩, fun k hE => hk k (h.e k hE).1 (h.e k hE).2.2⟩
  · have r1 := h.r.also (Nt' := fun k => (k ∈ Ds ∨ E k ∨ v.ownBlock = some k) ∨ v'.ownBlock = some k) fun k hk2 => by
      rcases hk2 with hk2 | hk2
      · exact .inl hk2
      · rcases hv with e | e
        · exact .inl (.inr (.inr (e ▸ hk2)))
        · rw [e] at hk2
          have := Option.some.inj hk2
          rw [World.size_alloc] at this
          exact .inr (by omega)
    exact (r1.fr (Y := Y) ⟨hg.os, hg.tape, hg.output, by omega, fun k hk2 hn => hk k hk2 (fun e => hn (.inl (.inr (.inr e))))⟩).also fun k hk2 => by
      rcases hk2 with hk2 | hk2 | hk2
      · exact .inl (.inl (.inl hk2))
      · exact .inl (.inl (.inr (.inl hk2)))
      · exact .inl (.inr hk2)
  · obtain ⟨bv, hb⟩ := h.res
    exact ⟨bv, (hk b2 (by omega) (fun e => by have := hB b2 e; omega)).trans hb⟩
  · obtain ⟨_, _, cur, hc⟩ := Nx.own_cell h.o e
    rw [(h.recs.at' D hD).2] at hc; cases hc
  · rcases hv with e | e
    · exact (h.e k hE).2.2 (e ▸ e2)
    · rw [e] at e2
      have := Option.some.inj e2
      rw [World.size_alloc] at this
      have := (h.e k hE).1
      omega
end
/-- what a copy does is its own affair -/
theorem some_Take {S : Nat → Prop} {w : World} {rb B : Nat} {M : List O} (h : Rv S w rb M) (hS : ∀ k, S k → B ≤ k) (hB : B ≤ w.heap.size) (hn : M.length ≤ 1000000) : Calls Try.prog 12 #[.pointer (some ⟨rb, 0, none⟩)] w fun e w' => ∃ k b, e = .returned (.tuple #[.string k, .bool b]) ∧ ∃ S' M', Rv S' w' rb M' ∧ (∀ k, S' k → B ≤ k) ∧ M'.length ≤ M.length ∧ Below B w w' := by
  by_cases hne : M = []
  · subst hne
    refine h.Take_no.mono ?_
    rintro e w' ⟨rfl, hb⟩
    exact ⟨_, _, rfl, S, [], h.old hb, hS, Nat.le_refl _, hb.mono hB⟩
  · refine (h.Take_yes hne hn).mono ?_
    rintro e w' ⟨x, hx, rfl, S', h1, h2, h3⟩
    exact ⟨_, _, rfl, S', _, h1, fun k hk => (h3 k hk).elim (hS k) (Nat.le_trans hB), del_len _ _, h2.below hB hS⟩
theorem some_Put {S : Nat → Prop} {w : World} {rb B : Nat} {M : List O} (h : Rv S w rb M) (hS : ∀ k, S k → B ≤ k) (hB : B ≤ w.heap.size) (hn : M.length < 1000000) : Calls Try.prog 10 #[.pointer (some ⟨rb, 0, none⟩), .string ⟨#[111, 116, 104, 101, 114]⟩, .int .i64 0, .int .u64 0] w fun e w' => ∃ n, e = .returned (.int .i64 n) ∧ Below B w w' := by
  have hk : wk ([111, 116, 104, 101, 114] : K) := by unfold wk; decide
  by_cases hm : [111, 116, 104, 101, 114] ∈ M.map (·.1)
  · refine (h.Put_same hk 0 (q := 0) (by omega) hm).mono ?_
    rintro e w' ⟨rfl, hb⟩
    exact ⟨_, rfl, hb.mono hB⟩
  · refine (h.Put_ok hk 0 (q := 0) (by omega) hm hn).mono ?_
    rintro e w' ⟨rfl, S', h1, h2, h3⟩
    exact ⟨_, rfl, h2.below hB hS⟩
end Go.Proofs.Ytomkefaakgodhaa.Nx
