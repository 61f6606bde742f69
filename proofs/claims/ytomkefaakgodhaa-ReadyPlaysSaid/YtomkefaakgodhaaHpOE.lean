
/- heaps of string and uint64: a row told, and gathered again -/
import Derived.Test.YtomkefaakgodhaaHpNE
import Derived.Test.YtomkefaakgodhaaRx
import Derived.Shelf.RegionOpen
import Derived.OwnWalkIn
import Derived.TacticsInMore
import Derived.LoopNIn
import Derived.LoopIn
namespace Go.Proofs.Ytomkefaakgodhaa.HpE
open Go.RowKit Go.Lib Go.Sort Hp Rg
set_option linter.unusedVariables false
attribute [local go_sem] Oper.semAt_some
set_option maxRecDepth 20000
def enc1 (x : K × Int) : Array Value := #[item x]
theorem Mid.belowAt {n₀ n₁ N : Nat} {a b : World} (h : Mid n₀ n₁ N a b) {k : Nat} (hk : k < N) (ho : k < n₀ ∨ n₁ ≤ k) : b.heap[k]? = a.heap[k]? := h.block k ho hk
theorem wrap_succ {m : Nat} (h : m ≤ 1000000) : wrap64 (((m : Nat) : Int) + 1) = ((m + 1 : Nat) : Int) := by unfold wrap64; omega
section
variable {w : World} {iv : Value} {l : List (K × Int)}
theorem values_any (w : World) (iv : Value) (hiv : ∃ a n c, iv = .slice a n c) : Calls Try.prog 41 #[iv] w fun e w' => e = .returned (.func (.func 51) #[] #[.pointer (some ⟨w.heap.size, 0, none⟩)]) ∧ w' = w.alloc (.cells #[iv] 73) := by
  obtain ⟨a, n, c, rfl⟩ := hiv
  go_enter Try.func41, Try.ntmps41
  go_wp2_with fail
  go_ret
  exact ⟨by simp, rfl⟩
theorem values_iter (n n₀ n₁ N B0 : Nat) (V : World) (hbox : V.cell? ⟨B0, 0, none⟩ = some iv) (hB0 : B0 < N) (hBo : B0 < n₀ ∨ n₁ ≤ B0) (hN : N ≤ V.heap.size) (hrow : Row V iv l) (hnb : ∀ b, blk iv = some b → b < N ∧ (b < n₀ ∨ n₁ ≤ b)) (hl : l.length ≤ 1000000) :
    Iter Fence.wide n Try.prog 51 #[.pointer (some ⟨B0, 0, none⟩)] enc1 n₀ n₁ N (fun m x _ => m < l.length ∧ x = el l m) (fun m => m = l.length) V := by
  intro lp J W hW hJ hY h0
  have hcell := (hW.cell (p := ⟨B0, 0, none⟩) hB0).trans hbox
  have hrow1 : Row W iv l := hrow.kept fun b hb => hW.block b (hnb b hb).1
  obtain ⟨a, cap, hiv⟩ : ∃ a cap, iv = .slice a l.length cap := by
    rcases hrow with ⟨rfl, p, rfl⟩ | ⟨g, cap, rfl, hB⟩
    · exact ⟨p, 0, rfl⟩
    · exact ⟨_, cap, rfl⟩
  have HY := Lib.hid hY
  have HJ := Lib.hid hJ
  have H0 := Lib.hid h0
  have hNW := Nat.le_trans hN hW.size
  have HR := Lib.hid (And.intro hrow1 (And.intro hnb (And.intro hl hiv)))
  have HN := Lib.hid hNW
  rw [hiv] at hcell
  clear hN hNW hY hJ h0 hW hbox hrow hrow1 hB0 hBo hnb hl hiv
  obtain ⟨n', hln⟩ : ∃ n, n = l.length := ⟨_, rfl⟩
  rw [← hln] at hcell
  have HL := Lib.hid hln
  clear hln
  refine callsIn_of_wp Try.func51 rfl trivial ?_ rfl
  simp only [Try.ntmps51, List.size_toArray, List.length_cons, List.length_nil, Nat.reduceAdd, Nat.reduceSub, Array.replicate_succ, Array.replicate_zero, List.push_toArray, List.append_toArray, List.nil_append, List.cons_append]
  gi_wp2_with fail
  gi_loopw [7] (fun i wr => ∃ m : Nat, i = .int .i64 ((m : Nat) : Int) ∧ m ≤ l.length ∧ J m wr ∧ Mid n₀ n₁ N W wr) (fun i _ => l.length - (RowKit.intOf i).toNat)
  case atStart => exact ⟨0, rfl, Nat.zero_le _, H0.out, Mid.refl _ _ _ _⟩
  case round =>
    obtain ⟨m, rfl, hm, hj, hmid⟩ := hrel
    by_cases hlt : m < l.length
    · obtain ⟨g, cap', hsl, hB⟩ : ∃ g cap', iv = .slice (some ⟨g, 0, none⟩) l.length cap' ∧ Blk W g cap' l := by
        rcases HR.out.1 with ⟨h1, _⟩ | ⟨g, cp, h1, h2⟩
        · rw [h1] at hlt; simp at hlt
        · exact ⟨g, cp, h1, h2⟩
      obtain ⟨rfl, rfl⟩ : a = some ⟨g, 0, none⟩ ∧ cap = cap' := by
        have := HR.out.2.2.2
        rw [hsl] at this
        cases this; exact ⟨rfl, rfl⟩
      have hgb : g < N ∧ (g < n₀ ∨ n₁ ≤ g) := HR.out.2.1 g (by
        have := hB.fits
        obtain ⟨c, rfl⟩ : ∃ c, cap = c + 1 := ⟨cap - 1, by omega⟩
        rw [hsl]; rfl)
      have hBr : Blk wr g cap l := hB.kept (hmid.block g hgb.2 hgb.1)
      have k1 := hBr.key hlt
      have r1 := hBr.rank hlt
      obtain ⟨p1, hp1⟩ : ∃ x, x = (el l m).1 := ⟨_, rfl⟩
      obtain ⟨q1, hq1⟩ : ∃ x, x = (el l m).2 := ⟨_, rfl⟩
      have hx1 : (p1, q1) = el l m := by rw [hp1, hq1]
      rw [← hp1] at k1
      rw [← hq1] at r1
      unfold ek at k1
      unfold er at r1
      have hltx : ((m : Nat) : Int) < ((n' : Nat) : Int) := by have := HL.out; omega
      have hbA : Below wr.heap.size wr (wr.alloc (.cells #[(.string ⟨p1.toArray⟩), (.int .u64 q1)] 63)) := (Below.refl _ _).alloc (Nat.le_refl _) _
      obtain ⟨fn, tmps, assign, body, hy, hR⟩ := HY.out m (p1, q1) _ (HJ.out m _ _ hj hbA) ⟨hlt, hx1⟩
      dsimp only [enc1, item, ek, er] at hy
      have HX := Lib.hid (And.intro hj (And.intro hmid (And.intro hbA (And.intro hlt hm))))
      clear hj hmid hbA hB hBr hsl hgb hp1 hq1 hx1 hm
      gi_wp2_with fail
      refine ⟨(fun h => by cases h), hR.mono ?_⟩
      rintro e W3 ⟨rfl, hJ3, hm3⟩
      have HZ := Lib.hid (And.intro hJ3 hm3)
      clear hJ3 hm3 hR hy
      have hw1 := wrap_succ (m := m) (Nat.le_trans (Nat.le_of_lt HX.out.2.2.2.1) HR.out.2.2.1)
      gi_wp2_with fail
      have hw2 := HX.out.2.1.size
      have hN2 := HN.out
      exact ⟨⟨m + 1, by rw [hw1], HX.out.2.2.2.1, HZ.out.1, (HX.out.2.1.trans (Mid.of (HX.out.2.2.1.mono (by omega)))).trans HZ.out.2⟩, by have := HX.out.2.2.2.1; rw [hw1]; simp [RowKit.intOf]; omega⟩
    · have hltx : ((n' : Nat) : Int) ≤ ((m : Nat) : Int) := by have := HL.out; omega
      have hme : m = l.length := by omega
      have HX := Lib.hid (And.intro hj hme)
      clear hj hme hmid hlt hm
      gi_wp2_with fail
      go_end0
      exact ⟨⟨_, rfl⟩, m, HX.out.2, HX.out.1⟩
theorem cell_two (w : World) (v u : Value) (t : TypeId) : ∀ j x, [v, u][j]? = some x → (w.alloc (.cells #[v, u] t)).cell? ((⟨w.heap.size, 0, none⟩ : Addr).add j) = some x := by
  intro j x hj
  match j, hj with
  | 0, hj | 1, hj =>
    simp at hj
    subst hj
    simp [Addr.add]
/-- what has been gathered -/
def Ga (w : World) (l : List (K × Int)) (m : Nat) (X : World) : Prop :=
  ∃ v, X.heap[w.heap.size]? = some (.cells #[v] 73 (0, 0)) ∧ X.ownsRow (w.heap.size + 1) 63 2 v m (cs (l.take m)) ∧ Below w.heap.size w X ∧ w.heap.size + 1 ≤ X.heap.size ∧ m ≤ l.length
theorem Ga.calm {m : Nat} {A A' : World} (h : Ga w l m A) (e : Calmly (w.heap.size + 1) A A') : Ga w l m A' := by
  obtain ⟨v, h1, h2, h3, h4, h5⟩ := h
  exact ⟨v, e.cell h1, e.own h2, h3.trans (e.below (Nat.le_succ _) h4), Nat.le_trans h4 e.size, h5⟩
theorem take_succ {m : Nat} (hm : m < l.length) : l.take (m + 1) = l.take m ++ [el l m] := by
  rw [List.take_add_one, el_get hm]; rfl
theorem ga_end {A2 W5 : World} {m : Nat} {v v5 : Value} {O : Obj} (i1 : A2.heap[w.heap.size]? = some (.cells #[v] 73 (0, 0))) (i2 : A2.ownsRow (w.heap.size + 1) 63 2 v m (cs (l.take m))) (hm : m < l.length)
    (i4 : Below w.heap.size w A2) (i5 : w.heap.size + 1 ≤ A2.heap.size) (hg : (A2.alloc O).grownBy W5 v.ownBlock) (ho : W5.ownsRow (w.heap.size + 1) 63 2 v5 (m + 1) (cs (l.take m) ++ cs [el l m])) :
    KeepsFrom (w.heap.size + 1) A2 (W5.setCell ⟨w.heap.size, 0, none⟩ v5) ∧ Mid w.heap.size (w.heap.size + 1) (w.heap.size + 1) A2 (W5.setCell ⟨w.heap.size, 0, none⟩ v5) ∧ Ga w l (m + 1) (W5.setCell ⟨w.heap.size, 0, none⟩ v5) := by
  have hz := hg.size
  rw [World.size_alloc] at hz
  have oth : ∀ k, k ≠ w.heap.size → (W5.setCell ⟨w.heap.size, 0, none⟩ v5).heap[k]? = W5.heap[k]? := fun k hk => heap_setCell_other _ _ _ _ hk
  have hrow : ∀ g, v.ownBlock = some g → w.heap.size + 1 ≤ g ∧ ∃ cur, A2.heap[g]? = some (.cells cur 63 (0, 0)) := fun g hgv => by
    refine ⟨(i2.lt g hgv).1, ?_⟩
    rcases i2.2 with ⟨rfl, _⟩ | ⟨g2, cap, cur, rfl, _, h3, _⟩
    · cases hgv
    · cases hgv; exact ⟨cur, h3⟩
  have k5 : ∀ k, k < A2.heap.size → v.ownBlock ≠ some k → W5.heap[k]? = A2.heap[k]? := fun k hk hn => (hg.block k (by simp; omega) (fun e => hn e.symm)).trans (Below.heap_alloc A2 O k hk)
  have b1 := k5 w.heap.size (by omega) (fun e => by have := (hrow _ e).1; omega)
  have o1 : (W5.setCell ⟨w.heap.size, 0, none⟩ v5).heap[w.heap.size]? = some (.cells #[v5] 73 (0, 0)) := by rw [Lib.heap_setCell_same (b1.trans i1)]; rfl
  have hown : (W5.setCell ⟨w.heap.size, 0, none⟩ v5).ownsRow (w.heap.size + 1) 63 2 v5 (m + 1) (cs (l.take (m + 1))) := by
    rw [take_succ hm, cs_app]
    refine ho.kept (Lib.grownBy_setCell W5 w.heap.size 0 v5) ?_
    cases hv : v5.ownBlock with
    | none => exact .inl rfl
    | some g => exact .inr fun e => by have := (ho.lt g hv).1; have := Option.some.inj e; omega
  refine ⟨⟨by simp; omega, fun k o hk hko hoc => ?_⟩, ⟨hg.os, hg.tape, hg.output, by simp; omega, fun k h1 h2 => ?_⟩, v5, o1, hown, ⟨hg.os.trans i4.os, hg.tape.trans i4.tape, hg.output.trans i4.output, by have := i4.size; simp; omega, fun k hk => ?_⟩, by simp; omega, hm⟩
  · have hlt := (Array.getElem?_eq_some_iff.1 hko).1
    rw [oth k (by omega), k5 k hlt (fun e => by obtain ⟨_, cur, hc⟩ := hrow k e; rw [hko] at hc; cases hc; cases hoc)]
    exact hko
  · rw [oth k (by omega)]
    exact k5 k (by omega) (fun e => by have := (hrow k e).1; omega)
  · rw [oth k (by omega), k5 k (by omega) (fun e => by have := (hrow k e).1; omega)]
    exact i4.block k hk
def mk1 (D : Nat) : Deferred := { target := .collected D, args := #[] }
theorem leaveV {fn : Func} {tmps : Array Value} {D r : Nat} {X : World} {v : Value} {R : Ending → World → Prop} (hres : fn.results = #[.tmp r]) (ht : tmps.getD r undef = v) (h : X.heap[D]? = some (.deferred (some []))) (hR : ∀ X', But D X X' → R (.returned v) X') :
    LeavesInM Fence.wide 3 Try.prog fn tmps R ([mk1 D]) .returning X := by
  refine ⟨by simp, .inl ⟨D, _, rfl, run_takeDeferred h, ?_⟩⟩
  have hbut := but_put D X (.deferred none)
  refine ⟨v, ?_, hR _ hbut⟩
  rw [results_tmp hres, ht]
set_option maxHeartbeats 1000000 in
theorem appendSeq_any (w : World) (B0 : Nat) (hbox : w.cell? ⟨B0, 0, none⟩ = some iv) (hrow : Row w iv l) (hl : l.length ≤ 1000000) :
    Calls Try.prog 54 #[.slice none 0 0, .func (.func 51) #[] #[.pointer (some ⟨B0, 0, none⟩)]] w fun e w' => ∃ v, e = .returned v ∧ w'.ownsRow (w.heap.size + 1) 63 2 v l.length (cs l) ∧ Below w.heap.size w w' := by
  obtain ⟨i0, hi, hz0, hz1, hz2⟩ := info_parts infoE
  have hB0 := World.block_lt_of_cell? _ _ hbox
  obtain ⟨V, hV⟩ : ∃ V, V = w.alloc (.cells #[.slice none 0 0] 73) := ⟨_, rfl⟩
  have hbV : Below w.heap.size w V := by rw [hV]; exact (Below.refl _ w).alloc (Nat.le_refl _) _
  have hzV : V.heap.size = w.heap.size + 1 := by rw [hV]; simp
  have h0V : V.heap[w.heap.size]? = some (.cells #[.slice none 0 0] 73 (0, 0)) := by rw [hV]; exact (MapKept.heap_alloc w _).1
  have hit := values_iter (n := 2) w.heap.size (w.heap.size + 1) V.heap.size B0 V ((hbV.cell hB0).trans hbox) (by simp at hB0; omega) (.inl (by simp at hB0; omega)) (Nat.le_refl _) (hrow.kept fun b hb => hbV.block b (hrow.lt hb)) (fun b hb => by have := hrow.lt hb; exact ⟨by omega, .inl this⟩) hl
  have HI := Lib.hid (And.intro hit (And.intro hbV (And.intro hzV (And.intro h0V hl))))
  clear hbox hrow hit hbV hzV h0V hl hB0
  refine (callsIn_wide (n := 3)).1 ?_
  refine callsIn_of_wp_marks Try.func54 rfl trivial ?_ rfl
  simp only [Try.ntmps54, List.size_toArray, List.length_cons, List.length_nil, Nat.reduceAdd, Nat.reduceSub, Array.replicate_succ, Array.replicate_zero, List.push_toArray, List.append_toArray, List.nil_append, List.cons_append]
  refine wpIn_wide.2 ?_
  go_wp2_with fail
  rw [← hV]
  clear hV
  refine (wpIn_wide (n := 3)).1 ?_
  refine range_exit (br := false) rfl (by omega) (gf := 51) (lb := #[.pointer (some ⟨B0, 0, none⟩)]) rfl trivial (enters_of Try.func51 (by kernel_rfl) rfl)
    (HI.out.1.x) (fun _ => rfl) (fun m X => Ga w l m X) (fun _ _ _ => False) (fun m A A' h e => h.calm (by rw [← HI.out.2.2.1]; exact e)) (fun _ _ _ _ h _ => h) (fun _ _ _ h => h.elim) ?h0 (fun m x A A' h _ => h) (fun m x A A' _ _ h _ _ => h) ?hround ?hdone (fun _ _ _ _ _ h _ => h.elim)
  case h0 => exact ⟨_, HI.out.2.2.2.1, ⟨rfl, .inl ⟨rfl, rfl⟩⟩, HI.out.2.1, by rw [HI.out.2.2.1]; exact Nat.le_refl _, Nat.zero_le _⟩
  case hround =>
    rintro lp m x X hlB ⟨rr, hlr⟩ hI ⟨hm, rfl⟩
    obtain ⟨p1, hp1⟩ : ∃ x, x = (el l m).1 := ⟨_, rfl⟩
    obtain ⟨q1, hq1⟩ : ∃ x, x = (el l m).2 := ⟨_, rfl⟩
    have hx1 : el l m = (p1, q1) := by rw [hp1, hq1]
    rw [hx1]
    dsimp only [enc1, item, ek, er]
    clear hp1 hq1
    gi_wp2_with fail
    refine ⟨(Below.refl _ _).alloc (Nat.le_refl _) _, ?_⟩
    intro A2 hbut hI2 hG2
    have hlX := (Array.getElem?_eq_some_iff.1 hlr).1
    have hx : A2.heap[X.heap.size]? = some (.cells #[(.string ⟨p1.toArray⟩), (.int .u64 q1)] 63 (0, 0)) := (hbut.2.2.2.2 _ (by omega)).trans (MapKept.heap_alloc X _).1
    obtain ⟨v, i1, i2, i3, i4, i5⟩ := hI2
    obtain ⟨ao, cp, rfl⟩ := own_shape i2
    have c1 : A2.cell? ⟨w.heap.size, 0, none⟩ = some (.slice ao m cp) := by rw [cell_of_row _ _ _ _ _ _ i1]; rfl
    have c2 : A2.cell? ⟨X.heap.size, 0, none⟩ = some ((.string ⟨p1.toArray⟩)) := by rw [cell_of_row _ _ _ _ _ _ hx]; rfl
    have c3 : A2.cell? ⟨X.heap.size, 1, none⟩ = some ((.int .u64 q1)) := by rw [cell_of_row _ _ _ _ _ _ hx]; rfl
    have hXA : X.heap.size < A2.heap.size := (Array.getElem?_eq_some_iff.1 hx).1
    have hwA : w.heap.size < A2.heap.size := by omega
    have hm2 : m ≤ 1000000 := by have := HI.out.2.2.2.2; omega
    have HX := Lib.hid (And.intro i1 (And.intro i2 (And.intro i3 (And.intro i4 (And.intro hm hx1)))))
    have hbx : blk (.slice ao m cp) ≠ some w.heap.size := fun e => by
      rcases blk_own e with h | h
      · have := (i2.lt _ h).1; omega
      · cases h
    have hbo : (Value.slice ao m cp).ownBlock ≠ some w.heap.size := fun e => by have := (i2.lt _ e).1; omega
    have HB := Lib.hid (And.intro hbo hwA)
    clear hI hG2 hbut hlr hlX hx i1 i3 i4 i5 hm hbx hx1 hbo
    gi_wp2_with (gi_at_builtin; refine wpListIn_append_own _ rfl _ _ 73 rfl (w.heap.size + 1) 63 i0 _ 2 24 Try.underlying73 hi hz0 hz1 hz2 (by rfl) (by decide) (.slice ao m cp) m (cs (l.take m)) rfl (HX.out.2.1.alloc _) ⟨A2.heap.size, 0, none⟩ 1 1 [_, _] rfl rfl (cell_two _ _ _ _) (by simp [Value.oneCell']) (by unfold maxLen; omega) (by omega) (by simp; omega) ?_; intro v5 W5 hown5 hg5 _; obtain ⟨a5, cp5, rfl⟩ := own_shape hown5; have hS5 := (hg5.block w.heap.size (by simp; have := HB.out.2; omega) (fun e => HB.out.1 e.symm)).trans ((Below.heap_alloc A2 _ w.heap.size HB.out.2).trans HX.out.1); have c5 := (cell_of_row W5 w.heap.size 0 _ _ _ hS5).trans (rfl : _ = some (Value.slice ao m cp)); have f5 : W5.frozen? ⟨w.heap.size, 0, none⟩ = false := (by simp [World.frozen?, hS5]))
    obtain ⟨i1, i2, i3, i4, hm, hx1⟩ := HX.out
    have hfin := ga_end i1 i2 hm i3 i4 hg5 (by rw [hx1]; exact hown5)
    rw [HI.out.2.2.1]
    exact hfin
  case hdone =>
    intro D m2 X hD hS hI hK
    subst hS
    obtain ⟨v, i1, i2, i3, i4, i5⟩ := hI
    obtain ⟨ao, cp, rfl⟩ := own_shape i2
    have c1 : X.cell? ⟨w.heap.size, 0, none⟩ = some (.slice ao l.length cp) := by rw [cell_of_row _ _ _ _ _ _ i1]; rfl
    have hfin : ∀ X', But D X X' → X'.ownsRow (w.heap.size + 1) 63 2 (.slice ao l.length cp) l.length (cs l) ∧ Below w.heap.size w X' := fun X' hbut => by
      have hcalm : Calmly V.heap.size X X' := Calmly.but' hbut hD hK rfl
      refine ⟨?_, i3.trans (hbut.below (by have := HI.out.2.2.1; omega))⟩
      have := hcalm.own i2
      rw [List.take_length] at this
      exact this
    have HX := Lib.hid (And.intro hfin (And.intro hD hK))
    clear hfin hD hK i1 i2 i3 i4 i5
    dsimp only
    go_wp2_with fail
    exact leaveV rfl rfl HX.out.2.2 fun X' hbut => ⟨_, rfl, HX.out.1 X' hbut⟩
end
end Go.Proofs.Ytomkefaakgodhaa.HpE

