
/- who is next: All -/
import Derived.Test.YtomkefaakgodhaaNx3
import Derived.Test.YtomkefaakgodhaaHpUE
import Derived.Maps.OwnIn
import Derived.RangeFuncBox
namespace Go.Proofs.Ytomkefaakgodhaa.Nx
open Go.RowKit Go.Lib Go.Sort Go.Shelf Hp HpE Ht Rg
set_option linter.unusedVariables false
set_option linter.unusedSectionVars false
set_option maxRecDepth 20000
attribute [local go_sem] Oper.semAt_some
theorem infoK : (Try.prog.info? 9).map (fun i => (i.zero, i.size, i.bytes)) = some (some (.string ⟨#[]⟩), 1, 16) := by kernel_rfl
/-- texts in a row of one's own -/
abbrev Tx (w : World) (B : Nat) (v : Value) (l : List K) : Prop := w.ownsRow B 9 1 v l.length (l.map ek)
theorem all_ln {T : Nat → Prop} {w : World} {v : Value} {m : List (K × Int)} (h : Ln T w v m) (hn : m.length ≤ 1000000) :
    Calls Try.prog 29 #[v] w fun e w' => ∃ u ls, e = .returned (.func (.func 43) #[] #[.pointer (some ⟨w.heap.size, 0, none⟩)]) ∧ w'.cell? ⟨w.heap.size, 0, none⟩ = some u ∧ ls.Perm m ∧ Srt ls ∧ Src w' u ls ∧ (∀ a n c, u = .slice (some a) n c → w.heap.size < a.block ∧ a.block < w'.heap.size) ∧ Below w.heap.size w w' := by
  rcases h with ⟨rfl, rfl⟩ | ⟨b, rfl, h⟩
  · refine (all_none w).mono ?_
    rintro e w' ⟨rfl, rfl⟩
    exact ⟨_, [], rfl, (cell_of_row _ _ 0 _ _ _ (MapKept.heap_alloc w _).1).trans rfl, List.Perm.refl _, fun i j _ hj => absurd hj (by simp), .inl ⟨rfl, _, _, rfl⟩, fun a n c e => (by cases e), (Below.refl _ w).alloc (Nat.le_refl _) _⟩
  · exact all_any h hn
/-- the ranges' records: nothing was deferred in their rounds -/
structure Recs (B : Nat) (X : World) (Ds : List Nat) : Prop where
  nd : Ds.Nodup
  at' : ∀ D ∈ Ds, B ≤ D ∧ X.heap[D]? = some (.deferred (some []))
theorem Recs.nil (B : Nat) (X : World) : Recs B X [] := ⟨List.nodup_nil, fun D h => by simp at h⟩
theorem Recs.kept {B : Nat} {X Y : World} {Ds : List Nat} (h : Recs B X Ds) (e : ∀ D ∈ Ds, Y.heap[D]? = X.heap[D]?) : Recs B Y Ds := ⟨h.nd, fun D hD => ⟨(h.at' D hD).1, (e D hD).trans (h.at' D hD).2⟩⟩
theorem Recs.lt {B : Nat} {X : World} {Ds : List Nat} (h : Recs B X Ds) {D : Nat} (hD : D ∈ Ds) : D < X.heap.size := (Array.getElem?_eq_some_iff.1 (h.at' D hD).2).1
theorem Recs.below {B : Nat} {X Y : World} {Ds : List Nat} (h : Recs B X Ds) (e : Below X.heap.size X Y) : Recs B Y Ds := h.kept fun D hD => e.block D (h.lt hD)
theorem Recs.cons {B : Nat} {X : World} {Ds : List Nat} {D : Nat} (h : Recs B X Ds) (hD : X.heap[D]? = some (.deferred (some []))) (hB : B ≤ D) (hn : D ∉ Ds) : Recs B X (D :: Ds) :=
  ⟨List.nodup_cons.2 ⟨hn, h.nd⟩, fun E hE => (List.mem_cons.1 hE).elim (fun e => by subst e; exact ⟨hB, hD⟩) (h.at' E)⟩
theorem leaveVs {n : Nat} {fn : Func} {tmps : Array Value} {r : Nat} {v : Value} {R : Ending → World → Prop} (hres : fn.results = #[.tmp r]) (ht : tmps.getD r undef = v) {B : Nat} :
    ∀ (Ds : List Nat) (X : World), Recs B X Ds → (∀ X', Fr (fun x => x ∈ Ds) X X' → R (.returned v) X') → LeavesInM Fence.wide n Try.prog fn tmps R (Ds.map mk1) .returning X
  | [], X, _, hR => ⟨v, by rw [results_tmp hres, ht], hR X (Fr.refl _ _)⟩
  | D :: Ds, X, h, hR => by
    have hD := h.at' D (List.mem_cons_self ..)
    refine ⟨by simp, .inl ⟨D, _, rfl, run_takeDeferred hD.2, ?_⟩⟩
    have hbut := but_put D X (.deferred none)
    have hnd := List.nodup_cons.1 h.nd
    refine leaveVs (B := B) hres ht Ds _ ?_ fun X' b => hR X' ?_
    · exact ⟨hnd.2, fun E hE => ⟨(h.at' E (List.mem_cons_of_mem _ hE)).1, (hbut.2.2.2.2 E (fun e => by subst e; exact hnd.1 hE)).trans (h.at' E (List.mem_cons_of_mem _ hE)).2⟩⟩
    · have hf : Fr (fun x => x ∈ D :: Ds) X (X.putObj D (.deferred none)) := ⟨hbut.1, hbut.2.1, hbut.2.2.1, Nat.le_of_eq hbut.2.2.2.1.symm, fun k hk hn => hbut.2.2.2.2 k (fun e => hn (by rw [e]; exact List.mem_cons_self ..))⟩
      exact hf.trans b fun x hx => .inl (List.mem_cons_of_mem _ hx)
/-- what a range has gathered, behind what was there -/
def Gt (W : World) (nb : Nat) (v0 : Value) (pre : List K) (l : List (K × Int)) (m : Nat) (X : World) : Prop :=
  ∃ v, X.heap[nb]? = some (.cells #[v] 66 (0, 0)) ∧ Tx X (nb + 1) v (pre ++ (l.take m).map (·.1)) ∧ (v.ownBlock = v0.ownBlock ∨ ∀ g, v.ownBlock = some g → W.heap.size ≤ g) ∧ Fr (fun x => x = nb ∨ v0.ownBlock = some x) W X ∧ m ≤ l.length
theorem Gt.calm {W A A' : World} {nb m : Nat} {v0 : Value} {pre : List K} {l : List (K × Int)} (h : Gt W nb v0 pre l m A) (e : Calmly W.heap.size A A') : Gt W nb v0 pre l m A' := by
  obtain ⟨v, h1, h2, h5, h3, h4⟩ := h
  refine ⟨v, e.cell h1, e.own h2, h5, ⟨e.os.trans h3.os, e.tape.trans h3.tape, e.output.trans h3.output, Nat.le_trans h3.size e.size, fun k hk hn => ?_⟩, h4⟩
  have hlt : k < A.heap.size := Nat.lt_of_lt_of_le hk h3.size
  have e1 : A.heap[k]? = some A.heap[k] := Array.getElem?_eq_getElem hlt
  rw [e.same k _ (.inl hk) e1, ← e1]
  exact h3.block k hk hn
theorem own_kept {w Y : World} {B : Nat} {t : TypeId} {k n : Nat} {v : Value} {xs : List Value} (h : w.ownsRow B t k v n xs) (e : ∀ b, v.ownBlock = some b → Y.heap[b]? = w.heap[b]?) : Y.ownsRow B t k v n xs := by
  rcases h with ⟨h0, h | ⟨g, cap, cur, rfl, h1, h2, h3⟩⟩
  · exact ⟨h0, .inl h⟩
  · refine ⟨h0, .inr ⟨g, cap, cur, rfl, h1, (e g ?_).trans h2, h3⟩⟩
    rfl
theorem own_cell {w : World} {B : Nat} {t : TypeId} {k n : Nat} {v : Value} {xs : List Value} (h : w.ownsRow B t k v n xs) {b : Nat} (hb : v.ownBlock = some b) : B ≤ b ∧ b < w.heap.size ∧ ∃ cur, w.heap[b]? = some (.cells cur t (0, 0)) := by
  refine ⟨(h.lt b hb).1, (h.lt b hb).2, ?_⟩
  rcases h.2 with ⟨rfl, _⟩ | ⟨g2, cap, cur, rfl, _, h3, _⟩
  · cases hb
  · cases hb; exact ⟨cur, h3⟩
theorem take_next {l : List (K × Int)} {m : Nat} (hm : m < l.length) : (l.take (m + 1)).map (·.1) = (l.take m).map (·.1) ++ [(el l m).1] := by
  rw [List.take_succ_eq_append_getElem hm, List.map_append, ← el_eq hm]; rfl
theorem gt_end {W A2 W5 : World} {nb n1 m : Nat} {v0 v v5 : Value} {pre : List K} {l : List (K × Int)} {O : Obj} (hnb : nb < n1) (h1W : n1 ≤ W.heap.size) (h0 : ∀ g, v0.ownBlock = some g → nb < g ∧ g < n1)
    (i1 : A2.heap[nb]? = some (.cells #[v] 66 (0, 0))) (i2 : Tx A2 (nb + 1) v (pre ++ (l.take m).map (·.1))) (i3 : v.ownBlock = v0.ownBlock ∨ ∀ g, v.ownBlock = some g → W.heap.size ≤ g) (i4 : Fr (fun x => x = nb ∨ v0.ownBlock = some x) W A2) (hm : m < l.length)
    (hg : (A2.alloc O).grownBy W5 v.ownBlock) (ho : Tx W5 (nb + 1) v5 (pre ++ (l.take m).map (·.1) ++ [(el l m).1])) (hv5 : v5.ownBlock = v.ownBlock ∨ v5.ownBlock = some (A2.alloc O).heap.size) :
    KeepsFrom W.heap.size A2 (W5.setCell ⟨nb, 0, none⟩ v5) ∧ Mid nb n1 W.heap.size A2 (W5.setCell ⟨nb, 0, none⟩ v5) ∧ Gt W nb v0 pre l (m + 1) (W5.setCell ⟨nb, 0, none⟩ v5) := by
  have hz := hg.size
  rw [World.size_alloc] at hz
  have hs := i4.size
  have oth : ∀ k, k ≠ nb → (W5.setCell ⟨nb, 0, none⟩ v5).heap[k]? = W5.heap[k]? := fun k hk => heap_setCell_other _ _ _ _ hk
  have hrow : ∀ g, v.ownBlock = some g → nb + 1 ≤ g ∧ ∃ cur, A2.heap[g]? = some (.cells cur 9 (0, 0)) := fun g hgv => ⟨(own_cell i2 hgv).1, (own_cell i2 hgv).2.2⟩
  have k5 : ∀ k, k < A2.heap.size → v.ownBlock ≠ some k → W5.heap[k]? = A2.heap[k]? := fun k hk hn => (hg.block k (by simp; omega) (fun e => hn e.symm)).trans (Below.heap_alloc A2 O k hk)
  have b1 := k5 nb (by omega) (fun e => by have := (hrow _ e).1; omega)
  have o1 : (W5.setCell ⟨nb, 0, none⟩ v5).heap[nb]? = some (.cells #[v5] 66 (0, 0)) := by rw [Lib.heap_setCell_same (b1.trans i1)]; rfl
  have hown : Tx (W5.setCell ⟨nb, 0, none⟩ v5) (nb + 1) v5 (pre ++ (l.take (m + 1)).map (·.1)) := by
    rw [take_next hm, ← List.append_assoc]
    exact own_kept ho fun b hb => oth b (by have := (ho.lt b hb).1; omega)
  refine ⟨⟨by simp; omega, fun k o hk hko hoc => ?_⟩, ⟨hg.os, hg.tape, hg.output, by simp; omega, fun k h1 h2 => ?_⟩, v5, o1, hown, ?_, ⟨hg.os.trans i4.os, hg.tape.trans i4.tape, hg.output.trans i4.output, by simp; omega, fun k hk hn => ?_⟩, hm⟩
  · have hlt := (Array.getElem?_eq_some_iff.1 hko).1
    rw [oth k (by omega), k5 k hlt (fun e => by obtain ⟨_, cur, hc⟩ := hrow k e; rw [hko] at hc; cases hc; cases hoc)]
    exact hko
  · rw [oth k (by omega)]
    refine k5 k (by omega) (fun e => ?_)
    rcases i3 with i3 | i3
    · rw [i3] at e; have := h0 k e; omega
    · have := i3 k e; omega
  · rcases hv5 with e | e
    · rw [e]; exact i3
    · refine .inr fun g hg => ?_
      rw [e] at hg
      have := Option.some.inj hg
      rw [World.size_alloc] at this
      omega
  · rw [oth k (fun e => hn (.inl e)), k5 k (by omega) (fun e => ?_)]
    · exact i4.block k hk hn
    · rcases i3 with i3 | i3
      · exact hn (.inr (i3 ▸ e))
      · have := i3 k e; omega
/-- ahead of a round -/
def Ph (w : World) (nb : Nat) (M : List O) (j : Nat) (X : World) (v : Value) (f : Nat → List (K × Int)) (Ds : List Nat) : Prop :=
  j ≤ 4 ∧ (∀ i, i < j → (f i).Perm (lin M i) ∧ Srt (f i)) ∧ X.heap[nb]? = some (.cells #[v] 66 (0, 0)) ∧ Tx X (nb + 1) v ((upto f j).map (·.1)) ∧ Recs (nb + 1) X Ds ∧ Below nb w X
def PI (w : World) (nb : Nat) (p : Nat → Value) (M : List O) (a' : Act) (w' : World) : Prop :=
  ∃ (x : Nat → Value) (j : Nat) (v : Value) (f : Nat → List (K × Int)) (Ds : List Nat), Ph w nb M j w' v f Ds ∧ a' = { tmps := #[x 0, x 1, x 2, .pointer (some ⟨nb, 0, none⟩), x 4, x 5, x 6, x 7, x 8, x 9, x 10, x 11, .agg #[p 0, p 1, p 2, p 3], .int .i64 ((j : Nat) : Int), x 14, x 15, x 16, x 17, x 18, x 19, x 20, x 21, x 22, x 23, x 24, x 25], defers := Ds.map mk1 }
theorem PI.mk' {w : World} {nb : Nat} {p : Nat → Value} {M : List O} {w' : World} (t : Array Value) (j : Nat) {v : Value} {f : Nat → List (K × Int)} (Ds : List Nat) (h : Ph w nb M j w' v f Ds) (ht : t = #[t.getD 0 undef, t.getD 1 undef, t.getD 2 undef, .pointer (some ⟨nb, 0, none⟩), t.getD 4 undef, t.getD 5 undef, t.getD 6 undef, t.getD 7 undef, t.getD 8 undef, t.getD 9 undef, t.getD 10 undef, t.getD 11 undef, .agg #[p 0, p 1, p 2, p 3], .int .i64 ((j : Nat) : Int), t.getD 14 undef, t.getD 15 undef, t.getD 16 undef, t.getD 17 undef, t.getD 18 undef, t.getD 19 undef, t.getD 20 undef, t.getD 21 undef, t.getD 22 undef, t.getD 23 undef, t.getD 24 undef, t.getD 25 undef]) : PI w nb p M { tmps := t, defers := Ds.map mk1 } w' :=
  ⟨fun i => t.getD i undef, j, v, f, Ds, h, congrArg (fun t => ({ tmps := t, defers := Ds.map mk1 } : Act)) ht⟩
def PM (a' : Act) : Nat := 4 - (RowKit.intOf (a'.tmps.getD 13 undef)).toNat
theorem upto_congr {f g : Nat → List (K × Int)} {n : Nat} (h : ∀ i, i < n → f i = g i) : upto f n = upto g n := by
  induction n with
  | zero => rfl
  | succ n ih =>
    unfold upto
    rw [ih fun i hi => h i (by omega), h n (by omega)]
theorem cell_one (w : World) (v : Value) (t : TypeId) : ∀ j x, [v][j]? = some x → (w.alloc (.cells #[v] t)).cell? ((⟨w.heap.size, 0, none⟩ : Addr).add j) = some x := by
  intro j x hj
  match j, hj with
  | 0, hj =>
    simp at hj
    subst hj
    simp [Addr.add]
theorem upto_succ (f : Nat → List (K × Int)) (n : Nat) : upto f (n + 1) = upto f n ++ lab n (f n) := rfl
theorem lab_keys (i : Nat) (l : List (K × Int)) : (lab i l).map (·.1) = l.map (·.1) := by unfold lab; rw [List.map_map]; rfl
set_option maxHeartbeats 4000000 in
theorem Rv.All {S : Nat → Prop} {w : World} {rb : Nat} {M : List O} (h : Rv S w rb M) (hn : M.length ≤ 1000000) : Calls Try.prog 15 #[.pointer (some ⟨rb, 0, none⟩)] w fun e w' =>
    ∃ v, e = .returned (.func (.func 30) #[] #[.pointer (some ⟨w.heap.size, 0, none⟩)]) ∧ w'.heap[w.heap.size]? = some (.cells #[v] 66 (0, 0)) ∧ Tx w' (w.heap.size + 1) v ((srt M).map (·.1)) ∧ Below w.heap.size w w' := by
  obtain ⟨p, T, h, rfl⟩ := h
  obtain ⟨nb, hnb⟩ : ∃ b, b = w.heap.size := ⟨_, rfl⟩
  rw [← hnb]
  obtain ⟨V, hV⟩ : ∃ V, V = w.alloc (.cells #[.slice none 0 0] 66) := ⟨_, rfl⟩
  have hbV : Below nb w V := by rw [hV, hnb]; exact (Below.refl _ w).alloc (Nat.le_refl _) _
  have hzV : V.heap.size = nb + 1 := by rw [hV, hnb]; simp
  have h0V : V.heap[nb]? = some (.cells #[.slice none 0 0] 66 (0, 0)) := by rw [hV, hnb]; exact (MapKept.heap_alloc w _).1
  have hqV := h.old (show Below w.heap.size w V by rw [← hnb]; exact hbV)
  obtain ⟨c0, c1, c2, c3⟩ := hqV.cells
  have H := Lib.hid (And.intro h (And.intro hn (And.intro hbV (And.intro hzV (And.intro h0V (And.intro hqV hnb))))))
  rw [hV] at c0 c1 c2 c3
  clear h hn hbV hzV h0V hqV
  refine (callsIn_wide (n := 3)).1 ?_
  refine callsIn_of_wp_marks Try.func15 rfl trivial ?_ rfl
  simp only [Try.ntmps15, List.size_toArray, List.length_cons, List.length_nil, Nat.reduceAdd, Nat.reduceSub, Array.replicate_succ, Array.replicate_zero, List.push_toArray, List.append_toArray, List.nil_append, List.cons_append]
  refine wpIn_wide.2 ?_
  go_wp2_with fail
  rw [← hV, ← hnb]
  clear hV hnb
  refine wp_loop (PI w nb p M) (fun a' _ => PM a') ?hstart ?hround
  case hstart => exact PI.mk' _ 0 [] (f := fun _ => []) ⟨by omega, (fun i hi => absurd hi (by omega)), H.out.2.2.2.2.1, ⟨rfl, .inl ⟨rfl, rfl⟩⟩, Recs.nil _ _, H.out.2.2.1⟩ (by kernel_rfl)
  case hround =>
    clear c0 c1 c2 c3
    rintro a1 wr ⟨x, j, v, f, Ds, ⟨hj4, hf, hnbx, hown, hR, hb⟩, rfl⟩
    by_cases hjx : j < 4
    case neg =>
      have hjc : ¬ ((j : Nat) : Int) < 4 := by omega
      obtain rfl : j = 4 := by omega
      have HZ := Lib.hid (And.intro hR (And.intro hb (And.intro hf (And.intro hnbx hown))))
      clear hR hb hf hnbx hown hj4 hjx
      go_wp2_with fail
      refine leaveVs rfl rfl Ds _ HZ.out.1 fun X' b => ?_
      obtain ⟨hR, hb, hf, hnbx, hown⟩ := HZ.out
      have hkeep : ∀ k, k < wr.heap.size → k ∉ Ds → X'.heap[k]? = wr.heap[k]? := b.block
      have hcell : ∀ k (C : Array Value) (t : TypeId) (z : Nat × Nat), wr.heap[k]? = some (Obj.cells C t z) → X'.heap[k]? = some (Obj.cells C t z) := fun k C t z e => (hkeep k (Array.getElem?_eq_some_iff.1 e).1 (fun hD => by rw [(hR.at' k hD).2] at e; cases e)).trans e
      refine ⟨rfl, v, hcell _ _ _ _ hnbx, ?_, ?_⟩
      · have e := upto_srt H.out.1.pri (fun i hi => (hf i hi).1) (fun i hi => (hf i hi).2) H.out.1.nodup
        rw [e] at hown
        exact own_kept hown fun g hg => by obtain ⟨_, _, cur, hc⟩ := own_cell hown hg; rw [hc]; exact hcell _ _ _ _ hc
      · refine hb.trans ⟨b.os, b.tape, b.output, b.size, fun k hk => hkeep k (by have := (Array.getElem?_eq_some_iff.1 hnbx).1; omega) (fun hD => by have := (hR.at' k hD).1; omega)⟩
    case pos =>
      have hx := fun W => ix p hjx W
      have hjc : ((j : Nat) : Int) < 4 := by omega
      have hqw := H.out.1.old (show Below w.heap.size w wr by rw [← H.out.2.2.2.2.2.2]; exact hb)
      have hAll := all_ln (hqw.line j hjx) (by have := lin_len M j; have := H.out.2.1; omega)
      have hnbW := (Array.getElem?_eq_some_iff.1 hnbx).1
      have HR := Lib.hid (And.intro hf (And.intro hnbx (And.intro hown (And.intro hR (And.intro hb (And.intro hjx hnbW))))))
      clear hf hnbx hown hR hb hj4 hjx hqw hnbW
      go_wp2_with fail
      refine hAll.mono ?_
      rintro e W5 ⟨u, l5, rfl, c5, hp5, hs5, src5, blk5, b5⟩
      have hl5 : l5.length ≤ 1000000 := by have h1 := hp5.length_eq; have := lin_len M j; have := H.out.2.1; omega
      have hB05 := World.block_lt_of_cell? _ _ c5
      have hit := all_iter (n := 2) nb wr.heap.size W5.heap.size wr.heap.size W5 c5 hB05 (Nat.le_refl _) src5 (fun a n c e => by
        have h1 := blk5 a n c e
        exact ⟨h1.2, .inr (by omega)⟩) hl5
      have hnb5 := (b5.block nb HR.out.2.2.2.2.2.2).trans HR.out.2.1
      have hown5 : Tx W5 (nb + 1) v ((upto f j).map (·.1)) := own_kept HR.out.2.2.1 fun g hg => b5.block g (own_cell HR.out.2.2.1 hg).2.1
      have hv0 : ∀ g, v.ownBlock = some g → nb < g ∧ g < wr.heap.size := fun g hg => by have := own_cell HR.out.2.2.1 hg; omega
      have H5 := Lib.hid (And.intro hit (And.intro hnb5 (And.intro hown5 (And.intro hl5 (And.intro hv0 (And.intro b5 (And.intro hp5 hs5)))))))
      clear hit hnb5 hown5 hl5 hB05 src5 blk5 b5 c5 hp5 hs5 hAll hv0 hx
      go_wp2_with fail
      refine (wpIn_wide (n := 3)).1 ?_
      refine range_exit (br := false) rfl (by omega) (gf := 43) (lb := #[.pointer (some ⟨wr.heap.size, 0, none⟩)]) rfl trivial (enters_of Try.func43 (by kernel_rfl) rfl)
        (H5.out.1.x) (fun _ => rfl) (fun mm A => Gt W5 nb v ((upto f j).map fun x : O => x.1) l5 mm A) (fun _ _ _ => False) (fun mm A A' h e => h.calm e) (fun _ _ _ _ h _ => h) (fun _ _ _ h => h.elim) ?h0 (fun m x A A' h _ => h) (fun m x A A' _ _ h _ _ => h) ?hround ?hdone (fun _ _ _ _ _ h _ => h.elim)
      case h0 => exact ⟨_, H5.out.2.1, by simpa using H5.out.2.2.1, .inl rfl, Fr.refl _ _, Nat.zero_le _⟩
      case hround =>
        rintro lp mr xr X hlB ⟨rr, hlr⟩ hI ⟨hm, rfl⟩
        obtain ⟨p1, hp1⟩ : ∃ x, x = (el l5 mr).1 := ⟨_, rfl⟩
        obtain ⟨q1, hq1⟩ : ∃ x, x = (el l5 mr).2 := ⟨_, rfl⟩
        have hx1 : el l5 mr = (p1, q1) := by rw [hp1, hq1]
        rw [hx1]
        dsimp only [enc1, item, ek, er]
        clear hp1 hq1
        gi_wp2_with fail
        refine ⟨(Below.refl _ _).alloc (Nat.le_refl _) _, ?_⟩
        intro A2 hbut hI2 hG2
        have hlX := (Array.getElem?_eq_some_iff.1 hlr).1
        have hx : A2.heap[X.heap.size]? = some (.cells #[(.string ⟨p1.toArray⟩), (.int .u64 q1)] 63 (0, 0)) := (hbut.2.2.2.2 _ (by omega)).trans (MapKept.heap_alloc X _).1
        obtain ⟨v2, i1, i2, i3, i4, i5⟩ := hI2
        obtain ⟨ao, cp, rfl⟩ := own_shape i2
        obtain ⟨pre, hpre⟩ : ∃ pre, pre = (upto f j).map (·.1) ++ (l5.take mr).map (·.1) := ⟨_, rfl⟩
        have hplen : pre.length ≤ 2000000 := by
          rw [hpre, List.length_append, List.length_map, List.length_map, List.length_take]
          have h1 := (upto_perm j (fun i hi => (HR.out.1 i hi).1)).length_eq
          have h2 := List.length_filter_le (fun x : O => decide (x.2.1 < j)) M
          have h3 := H.out.2.1
          have h4 := H5.out.2.2.2.1
          omega
        rw [← hpre] at i1 i2 i3
        obtain ⟨nr, hnr⟩ : ∃ nr, nr = pre.length := ⟨_, rfl⟩
        unfold Tx at i2
        rw [← hnr] at i1 i2 i3
        have c1 : A2.cell? ⟨nb, 0, none⟩ = some (.slice ao nr cp) := by rw [cell_of_row _ _ _ _ _ _ i1]; rfl
        have c2 : A2.cell? ⟨X.heap.size, 0, none⟩ = some (.string ⟨p1.toArray⟩) := by rw [cell_of_row _ _ _ _ _ _ hx]; rfl
        have hwA : nb < A2.heap.size := (Array.getElem?_eq_some_iff.1 i1).1
        have hnr2 : nr ≤ 2000000 := by omega
        have HX := Lib.hid (And.intro i1 (And.intro i2 (And.intro i3 (And.intro i4 (And.intro hm (And.intro hx1 (And.intro hnr hpre)))))))
        have hbo : (Value.slice ao nr cp).ownBlock ≠ some nb := fun e => by have := (i2.lt _ e).1; omega
        have HBo := Lib.hid (And.intro hbo (And.intro hwA hplen))
        clear hI hG2 hbut hlr hlX hx i1 i3 i4 i5 hm hx1 hbo hnr hpre hplen
        obtain ⟨i0, hi, hz0, hz1, hz2⟩ := info_parts infoK
        gi_wp2_with (gi_at_builtin; refine wpListIn_append_own_at _ rfl _ _ 66 rfl (nb + 1) 9 i0 _ 1 16 Try.underlying66 hi hz0 hz1 hz2 (by rfl) (by decide) (.slice ao nr cp) nr (pre.map ek) rfl (HX.out.2.1.alloc _) ⟨A2.heap.size, 0, none⟩ 1 1 [_] rfl rfl (cell_one _ _ _) (by simp [Value.oneCell']) (by unfold maxLen; omega) (by omega) (by simp; omega) ?_; intro v5 W6 hown5 hg5 _ hat5; obtain ⟨a5, cp5, rfl⟩ := own_shape hown5; have hS5 := (hg5.block nb (by simp; have := HBo.out.2.1; omega) (fun e => HBo.out.1 e.symm)).trans ((Below.heap_alloc A2 _ nb HBo.out.2.1).trans HX.out.1); have cc5 := (cell_of_row W6 nb 0 _ _ _ hS5).trans (rfl : _ = some (Value.slice ao nr cp)); have f5 : W6.frozen? ⟨nb, 0, none⟩ = false := (by simp [World.frozen?, hS5]))
        obtain ⟨i1, i2, i3, i4, hm, hx1, hnr, hpre⟩ := HX.out
        have hown6 : Tx W6 (nb + 1) (.slice a5 (nr + 1) cp5) (pre ++ [(el l5 mr).1]) := by
          unfold Tx
          rw [List.length_append, ← hnr, hx1, List.map_append]
          exact hown5
        exact gt_end (n1 := wr.heap.size) HR.out.2.2.2.2.2.2 H5.out.2.2.2.2.2.1.size H5.out.2.2.2.2.1 i1 (by rw [← hpre]; unfold Tx; rw [← hnr]; exact i2) i3 i4 hm hg5 (by rw [← hpre]; exact hown6) hat5
      case hdone =>
        intro D m6 X hD hS hI hK
        subst hS
        obtain ⟨v6, i1, i2, i3, i4, i5⟩ := hI
        rw [List.take_length] at i2
        obtain ⟨hf, hnbx, hown, hR, hb, hjx, hnbW⟩ := HR.out
        obtain ⟨hit, hnb5, hown5, hl5, hv0, b5, hp5, hs5⟩ := H5.out
        have hz5 := b5.size
        have hold : ∀ k, k < wr.heap.size → k ≠ nb → v.ownBlock ≠ some k → X.heap[k]? = wr.heap[k]? := fun k hk h1 h2 => (i4.block k (by omega) (fun e => e.elim h1 h2)).trans (b5.block k hk)
        have hph : Ph w nb M (j + 1) X v6 (fun i => if i = j then l5 else f i) (D :: Ds) := by
          refine ⟨by omega, fun i hi => ?_, i1, ?_, ?_, ?_⟩
          · by_cases e : i = j
            · subst e
              simp only [if_true]
              exact ⟨hp5, hs5⟩
            · simp only [e, if_false]
              exact hf i (by omega)
          · have e1 : upto (fun i => if i = j then l5 else f i) (j + 1) = upto f j ++ lab j l5 := by
              rw [upto_succ, if_pos rfl, upto_congr (g := f) fun i hi => if_neg (by omega)]
            rw [e1, List.map_append, lab_keys]
            exact i2
          · refine (hR.kept fun E hE => hold E (hR.lt hE) (fun e => by have := (hR.at' E hE).1; omega) (fun e => ?_)).cons hK (by omega) (fun e => by have := hR.lt e; omega)
            obtain ⟨_, _, cur, hc⟩ := own_cell hown e
            rw [(hR.at' E hE).2] at hc; cases hc
          · exact hb.trans ((b5.mono (by omega)).trans ⟨i4.os, i4.tape, i4.output, i4.size, fun k hk => i4.block k (by omega) (fun e => e.elim (fun e => by omega) (fun e => by have := (hv0 k e).1; omega))⟩)
        have hw := wrap4 hjx
        have hjc' : ((j : Nat) : Int) < 4 := by omega
        have HP := Lib.hid (And.intro hph hjx)
        clear hf hnbx hown hR hb hjx hnbW hit hnb5 hown5 hl5 hv0 b5 hp5 hs5 hz5 hold i1 i2 i3 i4 i5 hK hD hph
        dsimp only
        go_wp2_with fail
        exact ⟨PI.mk' _ (j + 1) (D :: Ds) HP.out.1 (by kernel_rfl), by have := HP.out.2; simp [PM, RowKit.intOf]; omega⟩
end Go.Proofs.Ytomkefaakgodhaa.Nx
