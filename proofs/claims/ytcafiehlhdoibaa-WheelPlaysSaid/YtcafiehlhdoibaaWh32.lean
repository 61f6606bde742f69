
/- WheelPlays: any act; how a function with many ranges is left -/
import Derived.Test.YtcafiehlhdoibaaWh26
import Derived.Test.YtcafiehlhdoibaaWh27
import Derived.Test.YtcafiehlhdoibaaWh28
import Derived.Test.YtcafiehlhdoibaaWh30
import Derived.Test.YtcafiehlhdoibaaWh31
import Derived.Test.YtcafiehlhdoibaaWh18
namespace Go.Proofs.Ytcafiehlhdoibaa.Wh
open Go.RowKit Go.Lib Go.Sort Go.Maps Hp Ht Rg
set_option linter.unusedVariables false
theorem do_any {B : Nat} {N : Nat → Prop} {X : World} {wb mb : Nat} {lv : Value} {most : Nat} {now : Int} {m : List (K × Int)} (h : Pl B N X wb mb lv most now m now m) (hB : B ≤ X.heap.size) (hN : ∀ x, N x → x < X.heap.size) (hm : m.length ≤ 100) {k : K} (hk : wk k) {kind ticks : Int}
    (ht : -1125899906842624 ≤ ticks ∧ ticks ≤ 1125899906842624) (hmost : 1 ≤ most ∧ most ≤ 65536) :
    Calls Try.prog 9 #[.pointer (some ⟨wb, 0, none⟩), .pointer (some ⟨mb, 0, none⟩), .agg #[.int .i64 kind, ek k, .int .i64 ticks]] X (Done B N X wb mb most m) := by
  by_cases h0 : kind = 0
  · exact do_add0 h hB hN hm hk h0 ht hmost
  by_cases h1 : kind = 1
  · exact do_add1 h hB hN hm hk h1 ht hmost
  by_cases h2 : kind = 2
  · exact do_cut h hB hN hm hk h2 ht hmost
  by_cases h3 : kind = 3
  · exact do_turn3 h hB hN hm hk h3 ht hmost
  by_cases h4 : kind = 4
  · exact do_turn4 h hB hN hm hk h4 ht hmost
  exact do_copy h hB hN hm hk ⟨h0, h1, h2, h3, h4⟩ ht hmost
/-- the ranges' records: nothing was deferred in their rounds -/
structure Recs (B : Nat) (X : World) (Ds : List Nat) : Prop where
  nd : Ds.Nodup
  at' : ∀ D ∈ Ds, B ≤ D ∧ X.heap[D]? = some (.deferred (some []))
theorem Recs.nil (B : Nat) (X : World) : Recs B X [] := ⟨List.nodup_nil, fun D h => by simp at h⟩
theorem Recs.kept {B : Nat} {X Y : World} {Ds : List Nat} (h : Recs B X Ds) (e : ∀ D ∈ Ds, Y.heap[D]? = X.heap[D]?) : Recs B Y Ds := ⟨h.nd, fun D hD => ⟨(h.at' D hD).1, (e D hD).trans (h.at' D hD).2⟩⟩
theorem Recs.below {B : Nat} {X Y : World} {Ds : List Nat} (h : Recs B X Ds) (e : Below X.heap.size X Y) : Recs B Y Ds := h.kept fun D hD => e.block D (Array.getElem?_eq_some_iff.1 (h.at' D hD).2).1
theorem Recs.cons {B : Nat} {X : World} {Ds : List Nat} {D : Nat} (h : Recs B X Ds) (hD : X.heap[D]? = some (.deferred (some []))) (hB : B ≤ D) (hn : D ∉ Ds) : Recs B X (D :: Ds) :=
  ⟨List.nodup_cons.2 ⟨hn, h.nd⟩, fun E hE => (List.mem_cons.1 hE).elim (fun e => by subst e; exact ⟨hB, hD⟩) (h.at' E)⟩
theorem leaveVs {n : Nat} {fn : Func} {tmps : Array Value} {r : Nat} {v : Value} {R : Ending → World → Prop} (hres : fn.results = #[.tmp r]) (ht : tmps.getD r undef = v) {B : Nat} :
    ∀ (Ds : List Nat) (X : World), Recs B X Ds → (∀ X', Below B X X' → R (.returned v) X') → LeavesInM Fence.wide n Try.prog fn tmps R (Ds.map mk1) .returning X
  | [], X, _, hR => ⟨v, by rw [results_tmp hres, ht], hR X (Below.refl _ _)⟩
  | D :: Ds, X, h, hR => by
    have hD := h.at' D (List.mem_cons_self ..)
    refine ⟨by simp, .inl ⟨D, _, rfl, run_takeDeferred hD.2, ?_⟩⟩
    have hbut := but_put D X (.deferred none)
    have hb : Below B X (X.putObj D (.deferred none)) := hbut.below hD.1
    refine leaveVs hres ht Ds _ ?_ fun X' b => hR X' (hb.trans b)
    have hnd := List.nodup_cons.1 h.nd
    exact ⟨hnd.2, fun E hE => ⟨(h.at' E (List.mem_cons_of_mem _ hE)).1, (hbut.2.2.2.2 E (fun e => by subst e; exact hnd.1 hE)).trans (h.at' E (List.mem_cons_of_mem _ hE)).2⟩⟩
/-- a new wheel beside a new model -/
theorem Pl.start {B : Nat} {X : World} {wb most : Nat} {now : Int} (h : Ow B (fun _ => False) X wb now most []) (hB : B ≤ X.heap.size) :
    Pl B (fun _ => False) (X.alloc (.cells #[.int .i64 now, .int .i64 ((most : Nat) : Int), .slice none 0 0] 31)) wb X.heap.size (.slice none 0 0) most now [] now [] where
  w := (h.to (N' := fun x => False ∨ x = X.heap.size ∨ (Value.slice none 0 0).ownBlock = some x) fun x _ _ hx e => by
    rcases e with e | e | e
    · exact e
    · omega
    · cases e).below ((Below.refl _ _).alloc (Nat.le_refl _) _)
  o := (MapKept.heap_alloc X _).1
  r := ⟨rfl, .inl ⟨rfl, rfl⟩⟩
  a := ⟨hB, fun e => e, fun x hx => by cases hx⟩
end Go.Proofs.Ytcafiehlhdoibaa.Wh
