
/- heaps of uint8 and int: what a heap tells, held against pairs in a row -/
import Derived.Test.YtpeapbhhlfbolaaHpUA
import Derived.Test.YtpeapbhhlfbolaaHpQA
import Derived.Test.YtpeapbhhlfbolaaHr
namespace Go.Proofs.Ytpeapbhhlfbolaa.HpA
open Go.RowKit Go.Lib Go.Sort Hp Rg Ht
set_option linter.unusedVariables false
attribute [local go_sem] Oper.semAt_some
set_option maxRecDepth 20000
/-- a row, behind what is laid anew -/
theorem append_all (W1 : World) {B0 B : Nat} {v : Value} {l : List (K × Int)} {u : Value} (hu : W1.ownsRow B0 33 2 u 0 []) (h : W1.ownsRow B 33 2 v l.length (cs l)) (hB : B0 ≤ W1.heap.size) (hl : l.length ≤ 1000000) (ty : TypeId) :
    ∃ v2 W2, (Builtin.append_ #[26, 26] ty #[u, v]).run Try.prog W1 = .ok v2 W2 ∧ W2.ownsRow B0 33 2 v2 l.length (cs l) ∧ Below B0 W1 W2 := by
  obtain ⟨i0, hi0, hz0, hz1, hz2⟩ := info_parts infoP
  rcases h.2 with ⟨rfl, h0⟩ | ⟨g, cap, cur, rfl, _⟩
  · have hl0 : l = [] := List.eq_nil_of_length_eq_zero h0
    subst hl0
    exact ⟨u, W1, run_append_owned_none W1 B0 26 ty 33 i0 2 Try.underlying26 hi0 u 0 [] hu, hu, Below.refl _ _⟩
  · obtain ⟨v2, W2, r2, o2, g2, _⟩ := run_append_own (P := Try.prog) W1 B0 26 ty 33 i0 _ 2 16 Try.underlying26 hi0 hz0 hz1 hz2 rfl (by decide) _ 0 [] hu ⟨g, 0, none⟩ l.length cap (cs l) (cs_len l) (fun j u hu => h.cells rfl j u hu) (cs_one l) (by unfold maxLen; omega) (by omega) hB
    rw [Nat.zero_add, List.nil_append] at o2
    exact ⟨v2, W2, r2, o2, below_grown g2 (fun k hk => (hu.lt k hk).1) hB⟩
/-- what is left of what has been told -/
structure IS (X : World) (ls : List (K × Int)) (L m : Nat) (A : World) : Prop where
  t : ∃ va lm, A.heap[L]? = some (.cells #[va] 26 (0, 0)) ∧ A.ownsRow (X.heap.size + 1) 33 2 va lm.length (cs lm) ∧ lm.Perm (ls.drop m)
  b : Below X.heap.size X A
  l : X.heap.size + 1 ≤ L ∧ L < A.heap.size ∧ m ≤ ls.length
  r : ∃ bv, A.heap[X.heap.size]? = some (.cells #[.bool bv] 4 (0, 0))
theorem results_c1 {fn : Func} {p : Tmp} {ty : TypeId} (h : fn.results = #[.cell p ty]) (tmps : Array Value) (P : Program) (w : World) :
    (results fn tmps).run P w = ((asAddr (tmps.getD p undef)).run P w).andThen fun x w₁ => (loadVar ty x).run P w₁ := by
  simp only [results, h]
  simp [Sem.run_bind, Result.andThen]
/-- the end where the result lies in a cell -/
theorem leaveC {n : Nat} {fn : Func} {tmps : Array Value} {D r R0 : Nat} {ty : TypeId} {X : World} {b : Bool} {R : Ending → World → Prop} (hres : fn.results = #[.cell r ty]) (hty : ty = 4) (ht : tmps.getD r undef = .pointer (some ⟨R0, 0, none⟩)) (h : X.heap[D]? = some (.deferred (some []))) (hc : X.cell? ⟨R0, 0, none⟩ = some (.bool b)) (hR : ∀ X', But D X X' → R (.returned (.bool b)) X') :
    LeavesInM Fence.wide n Try.prog fn tmps R ([mk1 D]) .returning X := by
  subst hty
  refine ⟨by simp, .inl ⟨D, _, rfl, run_takeDeferred h, ?_⟩⟩
  have hbut := but_put D X (.deferred none)
  refine ⟨.bool b, ?_, hR _ hbut⟩
  have hne : R0 ≠ D := fun e => by subst e; unfold World.cell? at hc; rw [h] at hc; cases hc
  have hc' : (X.putObj D (.deferred none)).cell? ⟨R0, 0, none⟩ = some (.bool b) := by
    rw [← hc]; unfold World.cell?; rw [hbut.2.2.2.2 R0 hne]
  generalize X.putObj D (.deferred none) = X' at hc'
  rw [results_c1 hres, ht]
  clear hR h hc hne hbut ht hres
  go_simp
theorem is_leave {X X2 V : World} {D N : Nat} {bv : Bool} {tmps : Array Value} (hX : Below X.heap.size X X2) (hV : Below X2.heap.size X2 V) (hN : X.heap.size < N) (hD : N ≤ D) (hK : X2.heap[D]? = some (.deferred (some []))) (hc : V.cell? ⟨X.heap.size, 0, none⟩ = some (.bool bv)) (ht : tmps.getD 4 undef = .pointer (some ⟨X.heap.size, 0, none⟩)) :
    LeavesInM Fence.wide 3 Try.prog Try.f16 tmps (fun e Y => e = .returned (.bool true) ∧ Below X.heap.size X Y) ([mk1 D]) .returning ((V.setCell ⟨X.heap.size, 0, none⟩ (.bool true)).drew) := by
  have hlt := (Array.getElem?_eq_some_iff.1 hK).1
  refine leaveC rfl rfl ht ?_ ?_ (fun X' hbut => ⟨rfl, ?_⟩)
  · show (V.setCell ⟨X.heap.size, 0, none⟩ (.bool true)).heap[D]? = _
    rw [heap_setCell_other _ _ _ _ (show D ≠ X.heap.size by omega), hV.block D hlt]
    exact hK
  · show (V.setCell ⟨X.heap.size, 0, none⟩ (.bool true)).cell? _ = _
    exact World.cell?_setCell_same _ _ _ hc
  · exact (((hX.trans (hV.mono hX.size)).setCell (Nat.le_refl _) _).drew).trans (hbut.below (by omega))
theorem is_end {X A2 A4 : World} {ls lm : List (K × Int)} {L m N : Nat} {va v5 : Value} (hb : Below A2.heap.size A2 A4) (t1 : A2.heap[L]? = some (.cells #[va] 26 (0, 0))) (hX : Below X.heap.size X A2) (hl : X.heap.size + 1 ≤ L ∧ L < A2.heap.size ∧ m ≤ ls.length) (hr : ∃ bv, A2.heap[X.heap.size]? = some (.cells #[.bool bv] 4 (0, 0))) (hN : N ≤ A2.heap.size)
    (ho : A4.ownsRow (X.heap.size + 1) 33 2 v5 lm.length (cs lm)) (hp : lm.Perm (ls.drop (m + 1))) (hm : m < ls.length) :
    KeepsFrom N A2 (A4.setCell ⟨L, 0, none⟩ v5) ∧ Mid L (L + 1) N A2 (A4.setCell ⟨L, 0, none⟩ v5) ∧ IS X ls L (m + 1) (A4.setCell ⟨L, 0, none⟩ v5) ∧ N ≤ (A4.setCell ⟨L, 0, none⟩ v5).heap.size := by
  have hz := hb.size
  have t4 := (hb.block L hl.2.1).trans t1
  have oth : ∀ k, k ≠ L → (A4.setCell ⟨L, 0, none⟩ v5).heap[k]? = A4.heap[k]? := fun k hk => heap_setCell_other _ _ _ _ hk
  have o1 : (A4.setCell ⟨L, 0, none⟩ v5).heap[L]? = some (.cells #[v5] 26 (0, 0)) := by rw [Lib.heap_setCell_same t4]; rfl
  obtain ⟨bv, hr⟩ := hr
  have hown : (A4.setCell ⟨L, 0, none⟩ v5).ownsRow (X.heap.size + 1) 33 2 v5 lm.length (cs lm) := by
    refine ho.kept (Lib.grownBy_setCell A4 L 0 v5) ?_
    cases hv : v5.ownBlock with
    | none => exact .inl rfl
    | some g =>
      refine .inr fun e => ?_
      · obtain rfl := Option.some.inj e
        rcases ho.2 with ⟨rfl, _⟩ | ⟨g2, cap, cur, rfl, _, h3, _⟩
        · cases hv
        · cases hv
          rw [t4] at h3
          cases h3
  refine ⟨⟨by simp; omega, fun k o hk hko hoc => ?_⟩, ⟨hb.os, hb.tape, hb.output, by simp; omega, fun k h1 h2 => ?_⟩, ⟨⟨v5, lm, o1, hown, hp⟩, ?_, ⟨hl.1, by simp; omega, hm⟩, ⟨bv, ?_⟩⟩, by simp; omega⟩
  · have hlt := (Array.getElem?_eq_some_iff.1 hko).1
    rw [oth k (fun e => by subst e; rw [t1] at hko; cases hko; cases hoc), hb.block k hlt]
    exact hko
  · rw [oth k (by omega)]
    exact hb.block k (by omega)
  · exact (hX.trans (hb.mono hX.size)).setCell (show X.heap.size ≤ L by omega) _
  · rw [oth _ (by omega), hb.block _ (by omega)]
    exact hr
theorem drop_el {l : List (K × Int)} {m : Nat} (h : m < l.length) : l.drop m = el l m :: l.drop (m + 1) := by
  rw [List.drop_eq_getElem_cons h, el_eq h]
theorem srt_lst {ls lm : List (K × Int)} {m : Nat} (hs : Srt ls) (hm : m < ls.length) (hp : lm.Perm (ls.drop m)) : Lst lm (el ls m) := by
  refine ⟨hp.mem_iff.2 (by rw [drop_el hm]; exact List.mem_cons_self ..), fun y hy => ?_⟩
  obtain ⟨j, hj, rfl⟩ := mem_el (hp.mem_iff.1 hy)
  rw [el_drop]
  rw [List.length_drop] at hj
  rcases Nat.eq_zero_or_pos j with rfl | h
  · exact (swo tot_int).irrefl _
  · exact hs m (m + j) (by omega) (by omega)
theorem erase_perm {lm : List (K × Int)} {i : Nat} (hi : i < lm.length) : lm.Perm (el lm i :: lm.eraseIdx i) := by
  have h : lm = lm.take i ++ el lm i :: lm.drop (i + 1) := by rw [← drop_el hi, List.take_append_drop]
  rw [List.eraseIdx_eq_take_drop_succ]
  exact (List.Perm.of_eq h).trans List.perm_middle
theorem srt_next {ls lm : List (K × Int)} {m i : Nat} (hm : m < ls.length) (hp : lm.Perm (ls.drop m)) (hi : i < lm.length) (he : el lm i = el ls m) : (lm.eraseIdx i).Perm (ls.drop (m + 1)) := by
  have h1 := (erase_perm hi).symm.trans hp
  rw [drop_el hm, he] at h1
  exact h1.cons_inv
theorem is_any {S : Nat → Prop} {B : Nat} {X : World} {hb : Nat} {v : Value} {mm : List (K × Int)} (h : Hv S X hb mm) (hown : X.ownsRow B 33 2 v mm.length (cs mm)) (hn : mm.length ≤ 1000000) :
    Calls Try.prog 16 #[.pointer (some ⟨hb, 0, none⟩), v] X fun e Y => e = .returned (.bool true) ∧ Below X.heap.size X Y := by
  have hmix : Try.prog.follows .mixedOrders = true := by kernel_rfl
  obtain ⟨W1, hW1⟩ : ∃ W, W = (X.alloc (.cells #[.bool false] 4)).alloc (.cells #[] 33) := ⟨_, rfl⟩
  have hb1 : Below X.heap.size X W1 := by rw [hW1]; exact ((Below.refl _ _).alloc (Nat.le_refl _) _).alloc (by simp) _
  have hz1 : W1.heap.size = X.heap.size + 2 := by rw [hW1]; simp
  have hr1 : W1.heap[X.heap.size]? = some (.cells #[.bool false] 4 (0, 0)) := by rw [hW1]; exact (Below.heap_alloc _ _ _ (by simp)).trans (MapKept.heap_alloc X _).1
  have hu1 : W1.ownsRow (X.heap.size + 1) 33 2 (.slice (some ⟨X.heap.size + 1, 0, none⟩) 0 0) 0 [] := by
    rw [hW1]
    have := World.ownsRow_made (base := X.heap.size + 1) (e := 33) (size := 2) (X.alloc (.cells #[.bool false] 4)) #[] 0 (by simp) (Nat.zero_le _) rfl
    simpa using this
  obtain ⟨v2, W2, run2, o2, hb2⟩ := append_all W1 hu1 ((Calmly.of hb1).own (N := 0) hown) (by omega) hn 26
  obtain ⟨av, cv, rfl⟩ := own_shape hown
  have hoX := hown
  have hAll := fun Y (e : Below X.heap.size X Y) => all_any (h.old e) hn
  have hLen := fun Y (e : Below X.heap.size X Y) => (h.old e).len
  have hl2 : X.heap.size + 1 ≤ W2.heap.size := by have := hb2.size; omega
  have hb02 : Below X.heap.size X W2 := hb1.trans (hb2.mono (Nat.le_succ _))
  have hr2 : W2.heap[X.heap.size]? = _ := (hb2.block X.heap.size (Nat.lt_succ_self _)).trans hr1
  obtain ⟨a2, c2, rfl⟩ := own_shape o2
  have H2 := Lib.hid (And.intro o2 (And.intro hb02 (And.intro hr2 hl2)))
  have HX := Lib.hid (And.intro h (And.intro hoX (And.intro hn (And.intro hAll hLen))))
  clear hoX hown h hn hAll hLen hb1 hz1 hr1 hu1 o2 hb2 hb02 hr2 hl2
  generalize hml : mm.length = ml at run2
  have HM := Lib.hid hml
  clear hml
  refine (callsIn_wide (n := 3)).1 ?_
  refine callsIn_of_wp_marks Try.func16 rfl trivial ?_ rfl
  simp only [Try.ntmps16, List.size_toArray, List.length_cons, List.length_nil, Nat.reduceAdd, Nat.reduceSub, Array.replicate_succ, Array.replicate_zero, List.push_toArray, List.append_toArray, List.nil_append, List.cons_append]
  refine wpIn_wide.2 ?_
  go_wp2_with (at_builtin; rw [← hW1]; refine wpList_plain rfl fun _ hK => wp_append _ _ _ rfl rfl rfl run2 (hK _ _ ?_))
  clear hK
  have hA3 := HX.out.2.2.2.1 (W2.alloc (.cells #[.slice a2 ml c2] 26)) (H2.out.2.1.trans ((Below.refl _ _).alloc H2.out.2.1.size _))
  have h3 : IS X mm W2.heap.size 0 (W2.alloc (.cells #[.slice a2 ml c2] 26)) := by
    obtain ⟨q1, q2, q3, q4⟩ := H2.out
    rw [HM.out] at q1
    refine ⟨⟨.slice a2 ml c2, mm, (MapKept.heap_alloc W2 _).1, ?_, List.Perm.refl _⟩, q2.trans ((Below.refl _ _).alloc q2.size _), ⟨q4, by simp, Nat.zero_le _⟩, ⟨false, (Below.heap_alloc _ _ _ (by omega)).trans q3⟩⟩
    rw [HM.out]
    exact q1.alloc _
  obtain ⟨L, hL⟩ : ∃ L, L = W2.heap.size := ⟨_, rfl⟩
  rw [← hL] at h3 ⊢
  have hz3 : (W2.alloc (.cells #[.slice a2 ml c2] 26)).heap.size = L + 1 := by rw [hL]; simp
  generalize W2.alloc (.cells #[.slice a2 ml c2] 26) = W3 at h3 hA3 hz3 ⊢
  clear H2 hL run2 hW1
  refine hA3.mono ?_
  rintro e W4 ⟨v4, ls, rfl, q1, q2, q3, q4, q5, q6⟩
  have h4 : IS X ls L 0 W4 := by
    obtain ⟨⟨va, lm, t1, t2, t3⟩, hb, ⟨l1, l2, l3⟩, ⟨bv, r1⟩⟩ := h3
    exact ⟨⟨va, lm, (q6.block L l2).trans t1, (Calmly.of (N := 0) q6).own t2, t3.trans q2.symm⟩, hb.trans (q6.mono (by have := hb.size; omega)), ⟨l1, Nat.lt_of_lt_of_le l2 q6.size, Nat.zero_le _⟩, ⟨bv, (q6.block _ (by omega)).trans r1⟩⟩
  have hls : ls.length = mm.length := q2.length_eq
  have hit := all_iter (n := 2) L (L + 1) W4.heap.size W3.heap.size W4 q1 (World.block_lt_of_cell? _ _ q1) (Nat.le_refl _) q4 (fun a n c e => ⟨(q5 a n c e).2, .inr (by have := (q5 a n c e).1; omega)⟩) (by rw [hls]; exact HX.out.2.2.1)
  have H4 := Lib.hid (And.intro hit (And.intro h4 (And.intro q2 (And.intro q3 (And.intro hls hz3)))))
  clear hit h4 q1 q2 q3 q4 q5 q6 hls hA3 h3 hz3
  go_wp2_with fail
  refine (wpIn_wide (n := 3)).1 ?_
  refine range_exit (br := false) rfl (by omega) (gf := 72) (lb := #[.pointer (some ⟨W3.heap.size, 0, none⟩)]) rfl trivial (enters_of Try.func72 (by kernel_rfl) rfl)
    (H4.out.1.x) (fun _ => rfl) (fun m A => IS X ls L m A ∧ W4.heap.size ≤ A.heap.size) (fun _ _ _ => False) ?hcalm (fun _ _ _ _ h _ => h) (fun _ _ _ h => h.elim) ⟨H4.out.2.1, Nat.le_refl _⟩ (fun m x A A' h _ => h) (fun m x A A' _ _ h _ _ => h) ?hround ?hdone (fun _ _ _ _ _ h _ => h.elim)
  case hcalm =>
    rintro m A A' ⟨⟨⟨va, lm, t1, t2, t3⟩, hb, ⟨l1, l2, l3⟩, ⟨bv, r1⟩⟩, hN⟩ e
    exact ⟨⟨⟨va, lm, e.cell t1, e.own t2, t3⟩, hb.trans (e.below H4.out.2.1.b.size hN), ⟨l1, Nat.lt_of_lt_of_le l2 e.size, l3⟩, ⟨bv, e.cell r1⟩⟩, Nat.le_trans hN e.size⟩
  case hround =>
    rintro lp m x A hlB ⟨rr, hlr⟩ hI ⟨hm, rfl⟩
    obtain ⟨p1, hp1⟩ : ∃ x, x = (el ls m).1 := ⟨_, rfl⟩
    obtain ⟨q1, hq1⟩ : ∃ x, x = (el ls m).2 := ⟨_, rfl⟩
    have hx1 : el ls m = (p1, q1) := by rw [hp1, hq1]
    rw [hx1]
    dsimp only [enc1, item, ek, er]
    clear hp1 hq1
    gi_wp2_with fail
    refine ⟨(Below.refl _ _).alloc (Nat.le_refl _) _, ?_⟩
    intro A2 hbut hI2 hG2
    have hlX := (Array.getElem?_eq_some_iff.1 hlr).1
    have hx : A2.heap[A.heap.size]? = some (.cells #[(.int .u8 p1), (.int .i64 q1)] 38 (0, 0)) := (hbut.2.2.2.2 _ (by omega)).trans (MapKept.heap_alloc A _).1
    have x1 : A2.cell? ⟨A.heap.size, 0, none⟩ = some ((.int .u8 p1)) := by rw [cell_of_row _ _ _ _ _ _ hx]; rfl
    have x2 : A2.cell? ⟨A.heap.size, 1, none⟩ = some ((.int .i64 q1)) := by rw [cell_of_row _ _ _ _ _ _ hx]; rfl
    obtain ⟨⟨⟨va, lm, t1, t2, t3⟩, hb2, hl2, hr2⟩, hN2⟩ := hI2
    have hll := t3.length_eq
    rw [List.length_drop] at hll
    have hlm : lm.length ≤ 1000000 := by have := H4.out.2.2.2.2.1; have := HX.out.2.2.1; omega
    have hsrc := src_own t2
    have hleast := least_any A2 va lm hsrc hlm
    have hst := srt_lst H4.out.2.2.2.1 hm t3
    rw [hx1] at hst
    obtain ⟨g, cap, rfl, hgc⟩ : ∃ g cap, va = .slice (some ⟨g, 0, none⟩) lm.length cap ∧ (lm.length ≤ cap ∧ cap ≤ maxLen) := by
      rcases t2.2 with ⟨_, h0⟩ | ⟨g, cap, cur, e, _, _, h1, h2, _⟩
      · omega
      · exact ⟨g, cap, e, h1, h2⟩
    have c1 : A2.cell? ⟨L, 0, none⟩ = some (.slice (some ⟨g, 0, none⟩) lm.length cap) := by rw [cell_of_row _ _ _ _ _ _ t1]; rfl
    have HZ := Lib.hid (And.intro t1 (And.intro t2 (And.intro t3 (And.intro hb2 (And.intro hl2 (And.intro hr2 (And.intro hN2 (And.intro hlm (And.intro hst (And.intro hgc (And.intro hx (And.intro hm (And.intro hx1 hsrc)))))))))))))
    clear t1 t2 t3 hb2 hl2 hr2 hN2 hlm hst hgc hx hm hx1 hsrc hll hI hbut hG2 hlr hlX
    obtain ⟨n, hn⟩ : ∃ n, n = lm.length := ⟨_, rfl⟩
    rw [← hn] at c1 hleast
    have HN := Lib.hid hn
    clear hn
    gi_wp2_with fail
    refine ⟨trivial, CallsIn.inRound lp ((callsIn_wide.2 hleast).mono ?_)⟩
    rintro q A3 ⟨hq, hb3⟩
    obtain ⟨i, hi, hil, rfl⟩ : ∃ i, i < lm.length ∧ el lm i = (p1, q1) ∧ q = .returned (.int .i64 ((i : Nat) : Int)) := by
      rcases hq with ⟨h0, _⟩ | ⟨i, hi, h1, h2⟩
      · have := HZ.out.2.2.2.2.2.2.2.2.1.1; rw [h0] at this; cases this
      · exact ⟨i, by rw [← HN.out]; exact hi, h1.one HZ.out.2.2.2.2.2.2.2.2.1, h2⟩
    clear hq hleast
    have hcs := HZ.out.2.2.2.2.2.2.2.2.2.2.2.2.2.shape
    have hsl3 : Src A3 (.slice (some ⟨g, 0, none⟩) lm.length cap) lm := HZ.out.2.2.2.2.2.2.2.2.2.2.2.2.2.old hb3
    obtain ⟨k1, k2⟩ : A3.cell? ⟨g, i * 2, none⟩ = some (ek p1) ∧ A3.cell? ⟨g, i * 2 + 1, none⟩ = some (er q1) := by
      obtain ⟨a', c', e1, e2⟩ := hsl3.shape
      obtain ⟨g', e3, e4⟩ := e2 (fun e => by rw [e] at hi; simp at hi)
      cases e1
      cases e3
      have := e4 i hi
      rw [hil] at this
      exact this
    have c3 := (hb3.cell (World.block_lt_of_cell? _ _ c1)).trans c1
    have y1 := (hb3.cell (World.block_lt_of_cell? _ _ x1)).trans x1
    have y2 := (hb3.cell (World.block_lt_of_cell? _ _ x2)).trans x2
    unfold ek at k1
    unfold er at k2
    have hin : ((i : Nat) : Int) < ((n : Nat) : Int) := by have := HN.out; omega
    have hi0 : ¬ ((i : Nat) : Int) < 0 := by omega
    have hcut := fun Y (e : Below A3.heap.size A3 Y) => cut09_any Y (.slice (some ⟨g, 0, none⟩) lm.length cap) lm (hsl3.old e) ⟨_, _, rfl, HZ.out.2.2.2.2.2.2.2.2.2.1⟩ HZ.out.2.2.2.2.2.2.2.1 hi
    rw [← HN.out] at hcut
    have HQ := Lib.hid (And.intro hi (And.intro hil (And.intro hb3 hcut)))
    clear hi hil hb3 hcut hsl3 hcs c1 x1 x2
    obtain ⟨bx, hbx⟩ : ∃ b, b = A.heap.size := ⟨_, rfl⟩
    rw [← hbx] at y1 y2 ⊢
    have HBX := Lib.hid hbx
    clear hbx
    gi_wp2_with fail
    refine begin_round 99 (fun Y => Y.cell? ⟨L, 0, none⟩ = some (.slice (some ⟨g, 0, none⟩) n cap) ∧ Y.cell? ⟨g, i * 2, none⟩ = some ((.int .u8 p1)) ∧ Y.cell? ⟨g, i * 2 + 1, none⟩ = some ((.int .i64 q1)) ∧ Y.cell? ⟨bx, 0, none⟩ = some ((.int .u8 p1)) ∧ Y.cell? ⟨bx, 1, none⟩ = some ((.int .i64 q1))) hmix (by kernel_rfl) ⟨c3, k1, k2, y1, y2⟩ (fun hS0 => ?_)
    refine Ht.takeN (i := 0) ⟨some 19, _, _, _, _, _⟩ (.int .i64 ((i : Nat) : Int)) rfl (Nat.le_of_ble_eq_true (by kernel_rfl)) (by kernel_rfl) (by kernel_rfl) (by kernel_rfl) (by kernel_rfl) hS0 (Or.inl ⟨by rfl, by (intro X hX; go_simp)⟩) ?_
    simp only [Act.put, List.setIfInBounds_toArray, List.set_cons_zero, List.set_cons_succ]
    refine Ht.takeN (i := 1) ⟨some 20, _, _, _, _, _⟩ (.bool false) rfl (Nat.le_of_ble_eq_true (by kernel_rfl)) (by kernel_rfl) (by kernel_rfl) (by kernel_rfl) (by kernel_rfl) hS0 (Or.inl ⟨by rfl, by (intro X hX; go_simp)⟩) ?_
    simp only [Act.put, List.setIfInBounds_toArray, List.set_cons_zero, List.set_cons_succ]
    refine Ht.takeN (i := 2) ⟨some 21, _, _, _, _, _⟩ (.bool false) rfl (Nat.le_of_ble_eq_true (by kernel_rfl)) (by kernel_rfl) (by kernel_rfl) (by kernel_rfl) (by kernel_rfl) hS0 (Or.inl ⟨by rfl, by (intro X hX; go_simp)⟩) ?_
    simp only [Act.put, List.setIfInBounds_toArray, List.set_cons_zero, List.set_cons_succ]
    refine Ht.takeN (i := 3) ⟨some 22, _, _, _, _, _⟩ (.slice (some ⟨g, 0, none⟩) n cap) rfl (Nat.le_of_ble_eq_true (by kernel_rfl)) (by kernel_rfl) (by kernel_rfl) (by kernel_rfl) (by kernel_rfl) hS0 (Or.inl ⟨by rfl, by (intro X hX; have := hX.1; go_simp)⟩) ?_
    simp only [Act.put, List.setIfInBounds_toArray, List.set_cons_zero, List.set_cons_succ]
    refine Ht.takeN (i := 4) ⟨some 23, _, _, _, _, _⟩ (.int .i64 ((i : Nat) : Int)) rfl (Nat.le_of_ble_eq_true (by kernel_rfl)) (by kernel_rfl) (by kernel_rfl) (by kernel_rfl) (by kernel_rfl) hS0 (Or.inl ⟨by rfl, by (intro X hX; go_simp)⟩) ?_
    simp only [Act.put, List.setIfInBounds_toArray, List.set_cons_zero, List.set_cons_succ]
    refine Ht.takeN (i := 5) ⟨some 24, _, _, _, _, _⟩ (.pointer (some ⟨g, i * 2, none⟩)) rfl (Nat.le_of_ble_eq_true (by kernel_rfl)) (by kernel_rfl) (by kernel_rfl) (by kernel_rfl) (by kernel_rfl) hS0 (Or.inl ⟨by rfl, by (intro X hX; go_simp)⟩) ?_
    simp only [Act.put, List.setIfInBounds_toArray, List.set_cons_zero, List.set_cons_succ]
    refine Ht.takeN (i := 6) ⟨some 25, _, _, _, _, _⟩ (.agg #[(.int .u8 p1), (.int .i64 q1)]) rfl (Nat.le_of_ble_eq_true (by kernel_rfl)) (by kernel_rfl) (by kernel_rfl) (by kernel_rfl) (by kernel_rfl) hS0 (Or.inl ⟨by rfl, by (intro X hX; have := And.intro hX.2.1 hX.2.2.1; go_simp)⟩) ?_
    simp only [Act.put, List.setIfInBounds_toArray, List.set_cons_zero, List.set_cons_succ]
    refine Ht.takeN (i := 7) ⟨some 26, _, _, _, _, _⟩ (.pointer (some ⟨bx, 0, none⟩)) rfl (Nat.le_of_ble_eq_true (by kernel_rfl)) (by kernel_rfl) (by kernel_rfl) (by kernel_rfl) (by kernel_rfl) hS0 (Or.inl ⟨by rfl, by (intro X hX; go_simp)⟩) ?_
    simp only [Act.put, List.setIfInBounds_toArray, List.set_cons_zero, List.set_cons_succ]
    refine Ht.takeN (i := 8) ⟨some 27, _, _, _, _, _⟩ ((.int .u8 p1)) rfl (Nat.le_of_ble_eq_true (by kernel_rfl)) (by kernel_rfl) (by kernel_rfl) (by kernel_rfl) (by kernel_rfl) hS0 (Or.inl ⟨by rfl, by (intro X hX; have := hX.2.2.2.1; go_simp)⟩) ?_
    simp only [Act.put, List.setIfInBounds_toArray, List.set_cons_zero, List.set_cons_succ]
    refine Ht.takeN (i := 9) ⟨some 28, _, _, _, _, _⟩ (.pointer (some ⟨bx, 1, none⟩)) rfl (Nat.le_of_ble_eq_true (by kernel_rfl)) (by kernel_rfl) (by kernel_rfl) (by kernel_rfl) (by kernel_rfl) hS0 (Or.inl ⟨by rfl, by (intro X hX; go_simp)⟩) ?_
    simp only [Act.put, List.setIfInBounds_toArray, List.set_cons_zero, List.set_cons_succ]
    refine Ht.takeN (i := 10) ⟨some 29, _, _, _, _, _⟩ ((.int .i64 q1)) rfl (Nat.le_of_ble_eq_true (by kernel_rfl)) (by kernel_rfl) (by kernel_rfl) (by kernel_rfl) (by kernel_rfl) hS0 (Or.inl ⟨by rfl, by (intro X hX; have := hX.2.2.2.2; go_simp)⟩) ?_
    simp only [Act.put, List.setIfInBounds_toArray, List.set_cons_zero, List.set_cons_succ]
    refine Ht.takeN (i := 11) ⟨some 30, _, _, _, _, _⟩ (.agg #[(.int .u8 p1), (.int .i64 q1)]) rfl (Nat.le_of_ble_eq_true (by kernel_rfl)) (by kernel_rfl) (by kernel_rfl) (by kernel_rfl) (by kernel_rfl) hS0 (Or.inl ⟨by rfl, by (intro X hX; go_simp)⟩) ?_
    simp only [Act.put, List.setIfInBounds_toArray, List.set_cons_zero, List.set_cons_succ]
    refine Ht.takeN (i := 12) ⟨some 31, _, _, _, _, _⟩ (.bool false) rfl (Nat.le_of_ble_eq_true (by kernel_rfl)) (by kernel_rfl) (by kernel_rfl) (by kernel_rfl) (by kernel_rfl) hS0 (Or.inl ⟨by rfl, by (intro X hX; go_simp)⟩) ?_
    simp only [Act.put, List.setIfInBounds_toArray, List.set_cons_zero, List.set_cons_succ]
    refine Ht.takeN (i := 13) ⟨some 32, _, _, _, _, _⟩ (.bool false) rfl (Nat.le_of_ble_eq_true (by kernel_rfl)) (by kernel_rfl) (by kernel_rfl) (by kernel_rfl) (by kernel_rfl) hS0 (Or.inl ⟨by rfl, by (intro X hX; go_simp)⟩) ?_
    simp only [Act.put, List.setIfInBounds_toArray, List.set_cons_zero, List.set_cons_succ]
    refine done (by kernel_rfl) ?_
    clear hS0 k1 k2 y1 y2
    gi_wp2_with fail
    refine ⟨trivial, CallsIn.inRound lp ((callsIn_wide.2 (HQ.out.2.2.2 A3.drew (Below.refl A3.heap.size A3).drew)).mono ?_)⟩
    rintro q A4 ⟨v5, rfl, ho5, hb4⟩
    obtain ⟨a5, c5, rfl⟩ := own_shape ho5
    have hb24 : Below A2.heap.size A2 A4 := HQ.out.2.2.1.drew.trans (hb4.mono HQ.out.2.2.1.size)
    have h4L : A4.heap[L]? = _ := (hb24.block L HZ.out.2.2.2.2.1.2.1).trans HZ.out.1
    have k4 : A4.cell? ⟨L, 0, none⟩ = some (.slice (some ⟨g, 0, none⟩) lm.length cap) := by rw [cell_of_row _ _ _ _ _ _ h4L]; rfl
    have f4 : A4.frozen? ⟨L, 0, none⟩ = false := by simp [World.frozen?, h4L]
    have hpm := srt_next HZ.out.2.2.2.2.2.2.2.2.2.2.2.1 HZ.out.2.2.1 HQ.out.1 (HQ.out.2.1.trans HZ.out.2.2.2.2.2.2.2.2.2.2.2.2.1.symm)
    have hel : (lm.eraseIdx i).length = n - 1 := by rw [List.length_eraseIdx, if_pos HQ.out.1, HN.out]
    have hend := is_end (X := X) (ls := ls) (N := W4.heap.size) (v5 := .slice a5 (n - 1) c5) hb24 HZ.out.1 HZ.out.2.2.2.1 HZ.out.2.2.2.2.1 HZ.out.2.2.2.2.2.1 HZ.out.2.2.2.2.2.2.1 (by
      rw [hel]
      refine own_base ho5 ?_
      have := HQ.out.2.2.1.size
      have := HZ.out.2.2.2.2.1
      show X.heap.size + 1 ≤ A3.heap.size
      omega) hpm HZ.out.2.2.2.2.2.2.2.2.2.2.2.1
    rw [← HN.out] at k4
    have HE := Lib.hid hend
    clear hend hpm hel hb24 h4L hb4 ho5 c3
    generalize n - 1 = n1 at HE ⊢
    gi_wp2_with fail
    exact HE.out
  case hdone =>
    intro D m2 X2 hD hS hI hK
    subst hS
    obtain ⟨⟨⟨va, lm, t1, t2, t3⟩, hb2, hl2, ⟨bv, hr2⟩⟩, hN2⟩ := hI
    have hlm : lm = [] := by
      have := t3.length_eq
      simp at this
      exact this
    subst hlm
    obtain ⟨ao, cp, rfl⟩ := own_shape t2
    have hv2 := HX.out.1.old hb2
    have hs2 : Src X2 (.slice av mm.length cv) mm := (src_own HX.out.2.1).old hb2
    have hleast := least_any X2 _ mm hs2 HX.out.2.2.1
    have HD := Lib.hid (And.intro t1 (And.intro hb2 (And.intro hl2 (And.intro hr2 (And.intro hN2 (And.intro hD (And.intro hK (And.intro hv2 hs2))))))))
    clear t1 t2 t3 hb2 hl2 hr2 hN2 hD hK hv2 hs2
    rw [HM.out] at hleast
    dsimp only
    go_wp2_with fail
    refine hleast.mono ?_
    rintro e X3 ⟨he, hb3⟩
    have hb03 : Below X.heap.size X X3 := HD.out.2.1.trans (hb3.mono HD.out.2.1.size)
    have hcells : ∀ Y, Below X2.heap.size X2 Y → Y.cell? ⟨L, 0, none⟩ = some (.slice ao 0 cp) ∧ Y.cell? ⟨X.heap.size, 0, none⟩ = some (.bool bv) ∧ Y.frozen? ⟨X.heap.size, 0, none⟩ = false := fun Y e => by
      have h1 := (e.block L HD.out.2.2.1.2.1).trans HD.out.1
      have h2 := (e.block X.heap.size (Nat.lt_of_lt_of_le (Nat.lt_succ_self _) (Nat.le_trans HD.out.2.2.1.1 (Nat.le_of_lt HD.out.2.2.1.2.1)))).trans HD.out.2.2.2.1
      exact ⟨by rw [cell_of_row _ _ _ _ _ _ h1]; rfl, by rw [cell_of_row _ _ _ _ _ _ h2]; rfl, by simp [World.frozen?, h2]⟩
    by_cases hmm : mm = []
    · have he2 : e = .returned (.int .i64 (-1)) := by
        rcases he with ⟨_, h⟩ | ⟨i, hi, _⟩
        · exact h
        · rw [← HM.out, hmm] at hi; simp at hi
      subst he2
      have hml : ml = 0 := by rw [← HM.out, hmm]; rfl
      subst hml
      have hF := first_nil (hmm ▸ HX.out.1.old hb03 : Hv S X3 hb [])
      unfold none0 at hF
      have HE := Lib.hid (And.intro hb3 hb03)
      clear he hleast hb3 hb03
      go_wp2_with fail
      refine hF.mono ?_
      rintro e X4 ⟨rfl, hb4⟩
      have hb24 : Below X2.heap.size X2 X4 := HE.out.1.trans (hb4.mono HE.out.1.size)
      have HG := Lib.hid hb24
      clear hb24 hb4 hF
      go_wp2_with fail
      obtain ⟨V, hV⟩ : ∃ V, V = X4.alloc (.cells #[(.int .u8 0), (.int .i64 0)] 38) := ⟨_, rfl⟩
      rw [← hV]
      have hbV : Below X2.heap.size X2 V := by rw [hV]; exact HG.out.alloc HG.out.size _
      obtain ⟨cL, cR, fR⟩ := hcells V hbV
      have hlen := fun Y (e : Below X2.heap.size X2 Y) => HX.out.2.2.2.2 Y (HD.out.2.1.trans (e.mono HD.out.2.1.size))
      rw [HM.out] at hlen
      have HH := Lib.hid (And.intro hbV hlen)
      clear hV hbV hlen hcells
      refine begin' 99 (fun _ => True) hmix trivial (fun _ => ?_)
      refine later [32] (fun X => Below X2.heap.size X2 X ∧ X.cell? ⟨L, 0, none⟩ = some (.slice ao 0 cp)) (⟨HH.out.1.drew, cL⟩) (fun hS0 => ?_)
      refine Ht.takeS 10 (i := 0) ⟨some 43, _, _, _, _, _⟩ (.slice ao 0 cp) rfl (by kernel_rfl) (by kernel_rfl) (by kernel_rfl) (by kernel_rfl) (by kernel_rfl) hS0 (Or.inl ⟨by rfl, by (intro X hX; have := hX.2; go_simp)⟩) ?_
      simp only [Act.put, List.setIfInBounds_toArray, List.set_cons_zero, List.set_cons_succ]
      refine Ht.takeS 10 (i := 1) ⟨some 44, _, _, _, _, _⟩ (.int .i64 0) rfl (by kernel_rfl) (by kernel_rfl) (by kernel_rfl) (by kernel_rfl) (by kernel_rfl) hS0 (Or.inl ⟨by rfl, by (intro X hX; go_simp)⟩) ?_
      simp only [Act.put, List.setIfInBounds_toArray, List.set_cons_zero, List.set_cons_succ]
      refine Ht.takeS 10 (i := 2) ⟨some 45, _, _, _, _, _⟩ (.bool true) rfl (by kernel_rfl) (by kernel_rfl) (by kernel_rfl) (by kernel_rfl) (by kernel_rfl) hS0 (Or.inl ⟨by rfl, by (intro X hX; go_simp)⟩) ?_
      simp only [Act.put, List.setIfInBounds_toArray, List.set_cons_zero, List.set_cons_succ]
      refine Ht.takeS 10 (i := 3) ⟨some 46, _, _, _, _, _⟩ (.bool true) rfl (by kernel_rfl) (by kernel_rfl) (by kernel_rfl) (by kernel_rfl) (by kernel_rfl) hS0 (Or.inl ⟨by rfl, by (intro X hX; go_simp)⟩) ?_
      simp only [Act.put, List.setIfInBounds_toArray, List.set_cons_zero, List.set_cons_succ]
      refine Ht.takeS 10 (i := 4) ⟨some 47, _, _, _, _, _⟩ (.pointer (some ⟨hb, 0, none⟩)) rfl (by kernel_rfl) (by kernel_rfl) (by kernel_rfl) (by kernel_rfl) (by kernel_rfl) hS0 (Or.inl ⟨by rfl, by (intro X hX; go_simp)⟩) ?_
      simp only [Act.put, List.setIfInBounds_toArray, List.set_cons_zero, List.set_cons_succ]
      refine Ht.takeS 10 (i := 6) ⟨some 49, _, _, _, _, _⟩ (.slice av 0 cv) rfl (by kernel_rfl) (by kernel_rfl) (by kernel_rfl) (by kernel_rfl) (by kernel_rfl) hS0 (Or.inl ⟨by rfl, by (intro X hX; go_simp)⟩) ?_
      simp only [Act.put, List.setIfInBounds_toArray, List.set_cons_zero, List.set_cons_succ]
      refine Ht.takeS 10 (i := 7) ⟨some 50, _, _, _, _, _⟩ (.int .i64 0) rfl (by kernel_rfl) (by kernel_rfl) (by kernel_rfl) (by kernel_rfl) (by kernel_rfl) hS0 (Or.inl ⟨by rfl, by (intro X hX; go_simp)⟩) ?_
      simp only [Act.put, List.setIfInBounds_toArray, List.set_cons_zero, List.set_cons_succ]
      refine Ht.stepS (i := 5) ⟨some 48, _, _, _, _, _⟩ rfl (by kernel_rfl) (by rfl) (fun K hK => ?_)
      refine Ht.enter 43 #[.pointer (some ⟨hb, 0, none⟩)] (by have hen := fun args w => enters_of (P := Try.prog) Try.func43 (by kernel_rfl) rfl args w; go_simp) (HH.out.2 _ hS0.1) ?_
      rintro e Y1 ⟨rfl, hY1⟩
      subst hY1
      refine ⟨_, rfl, hK _ _ (fun hn => hS0) (fun hnx => ?_)⟩
      clear hK K hnx
      simp only [Act.put, List.setIfInBounds_toArray, List.set_cons_zero, List.set_cons_succ]
      refine Ht.takeS 10 (i := 8) ⟨some 51, _, _, _, _, _⟩ (.bool true) rfl (by kernel_rfl) (by kernel_rfl) (by kernel_rfl) (by kernel_rfl) (by kernel_rfl) hS0 (Or.inl ⟨by rfl, by (intro X hX; go_simp)⟩) ?_
      simp only [Act.put, List.setIfInBounds_toArray, List.set_cons_zero, List.set_cons_succ]
      refine Ht.takeS 10 (i := 9) ⟨some 52, _, _, _, _, _⟩ (.bool true) rfl (by kernel_rfl) (by kernel_rfl) (by kernel_rfl) (by kernel_rfl) (by kernel_rfl) hS0 (Or.inl ⟨by rfl, by (intro X hX; go_simp)⟩) ?_
      simp only [Act.put, List.setIfInBounds_toArray, List.set_cons_zero, List.set_cons_succ]
      refine Ht.takeS 10 (i := 10) ⟨some 53, _, _, _, _, _⟩ (.bool true) rfl (by kernel_rfl) (by kernel_rfl) (by kernel_rfl) (by kernel_rfl) (by kernel_rfl) hS0 (Or.inl ⟨by rfl, by (intro X hX; go_simp)⟩) ?_
      simp only [Act.put, List.setIfInBounds_toArray, List.set_cons_zero, List.set_cons_succ]
      refine Ht.takeS 10 (i := 11) ⟨some 54, _, _, _, _, _⟩ (.bool false) rfl (by kernel_rfl) (by kernel_rfl) (by kernel_rfl) (by kernel_rfl) (by kernel_rfl) hS0 (Or.inl ⟨by rfl, by (intro X hX; go_simp)⟩) ?_
      simp only [Act.put, List.setIfInBounds_toArray, List.set_cons_zero, List.set_cons_succ]
      refine Ht.takeS 10 (i := 12) ⟨some 55, _, _, _, _, _⟩ (.int .i64 (-1)) rfl (by kernel_rfl) (by kernel_rfl) (by kernel_rfl) (by kernel_rfl) (by kernel_rfl) hS0 (Or.inl ⟨by rfl, by (intro X hX; go_simp)⟩) ?_
      simp only [Act.put, List.setIfInBounds_toArray, List.set_cons_zero, List.set_cons_succ]
      refine Ht.takeS 10 (i := 13) ⟨some 56, _, _, _, _, _⟩ (.bool false) rfl (by kernel_rfl) (by kernel_rfl) (by kernel_rfl) (by kernel_rfl) (by kernel_rfl) hS0 (Or.inl ⟨by rfl, by (intro X hX; go_simp)⟩) ?_
      simp only [Act.put, List.setIfInBounds_toArray, List.set_cons_zero, List.set_cons_succ]
      refine Ht.takeS 10 (i := 14) ⟨some 57, _, _, _, _, _⟩ (.bool true) rfl (by kernel_rfl) (by kernel_rfl) (by kernel_rfl) (by kernel_rfl) (by kernel_rfl) hS0 (Or.inl ⟨by rfl, by (intro X hX; go_simp)⟩) ?_
      simp only [Act.put, List.setIfInBounds_toArray, List.set_cons_zero, List.set_cons_succ]
      refine Ht.takeS 10 (i := 15) ⟨some 58, _, _, _, _, _⟩ (.bool true) rfl (by kernel_rfl) (by kernel_rfl) (by kernel_rfl) (by kernel_rfl) (by kernel_rfl) hS0 (Or.inl ⟨by rfl, by (intro X hX; go_simp)⟩) ?_
      simp only [Act.put, List.setIfInBounds_toArray, List.set_cons_zero, List.set_cons_succ]
      refine Ht.takeS 10 (i := 16) ⟨some 59, _, _, _, _, _⟩ (.bool true) rfl (by kernel_rfl) (by kernel_rfl) (by kernel_rfl) (by kernel_rfl) (by kernel_rfl) hS0 (Or.inl ⟨by rfl, by (intro X hX; go_simp)⟩) ?_
      simp only [Act.put, List.setIfInBounds_toArray, List.set_cons_zero, List.set_cons_succ]
      refine Ht.takeS 10 (i := 17) ⟨some 60, _, _, _, _, _⟩ (.bool false) rfl (by kernel_rfl) (by kernel_rfl) (by kernel_rfl) (by kernel_rfl) (by kernel_rfl) hS0 (Or.inl ⟨by rfl, by (intro X hX; go_simp)⟩) ?_
      simp only [Act.put, List.setIfInBounds_toArray, List.set_cons_zero, List.set_cons_succ]
      refine Ht.takeS 10 (i := 18) ⟨some 61, _, _, _, _, _⟩ (.bool true) rfl (by kernel_rfl) (by kernel_rfl) (by kernel_rfl) (by kernel_rfl) (by kernel_rfl) hS0 (Or.inl ⟨by rfl, by (intro X hX; go_simp)⟩) ?_
      simp only [Act.put, List.setIfInBounds_toArray, List.set_cons_zero, List.set_cons_succ]
      refine Ht.takeS 10 (i := 19) ⟨some 62, _, _, _, _, _⟩ (.bool true) rfl (by kernel_rfl) (by kernel_rfl) (by kernel_rfl) (by kernel_rfl) (by kernel_rfl) hS0 (Or.inl ⟨by rfl, by (intro X hX; go_simp)⟩) ?_
      simp only [Act.put, List.setIfInBounds_toArray, List.set_cons_zero, List.set_cons_succ]
      refine Ht.takeS 10 (i := 20) ⟨some 63, _, _, _, _, _⟩ (undef) rfl (by kernel_rfl) (by kernel_rfl) (by kernel_rfl) (by kernel_rfl) (by kernel_rfl) hS0 (Or.inr ⟨by rfl, by rfl⟩) ?_
      simp only [Act.put, List.setIfInBounds_toArray, List.set_cons_zero, List.set_cons_succ]
      refine Ht.takeS 10 (i := 21) ⟨some 64, _, _, _, _, _⟩ (undef) rfl (by kernel_rfl) (by kernel_rfl) (by kernel_rfl) (by kernel_rfl) (by kernel_rfl) hS0 (Or.inr ⟨by rfl, by rfl⟩) ?_
      simp only [Act.put, List.setIfInBounds_toArray, List.set_cons_zero, List.set_cons_succ]
      refine Ht.takeS 10 (i := 22) ⟨some 65, _, _, _, _, _⟩ (undef) rfl (by kernel_rfl) (by kernel_rfl) (by kernel_rfl) (by kernel_rfl) (by kernel_rfl) hS0 (Or.inr ⟨by rfl, by rfl⟩) ?_
      simp only [Act.put, List.setIfInBounds_toArray, List.set_cons_zero, List.set_cons_succ]
      refine Ht.takeS 10 (i := 23) ⟨some 66, _, _, _, _, _⟩ (undef) rfl (by kernel_rfl) (by kernel_rfl) (by kernel_rfl) (by kernel_rfl) (by kernel_rfl) hS0 (Or.inr ⟨by rfl, by rfl⟩) ?_
      simp only [Act.put, List.setIfInBounds_toArray, List.set_cons_zero, List.set_cons_succ]
      refine Ht.takeS 10 (i := 24) ⟨some 67, _, _, _, _, _⟩ (undef) rfl (by kernel_rfl) (by kernel_rfl) (by kernel_rfl) (by kernel_rfl) (by kernel_rfl) hS0 (Or.inr ⟨by rfl, by rfl⟩) ?_
      simp only [Act.put, List.setIfInBounds_toArray, List.set_cons_zero, List.set_cons_succ]
      refine Ht.takeS 10 (i := 25) ⟨some 68, _, _, _, _, _⟩ (undef) rfl (by kernel_rfl) (by kernel_rfl) (by kernel_rfl) (by kernel_rfl) (by kernel_rfl) hS0 (Or.inr ⟨by rfl, by rfl⟩) ?_
      simp only [Act.put, List.setIfInBounds_toArray, List.set_cons_zero, List.set_cons_succ]
      refine Ht.takeS 10 (i := 26) ⟨some 69, _, _, _, _, _⟩ (undef) rfl (by kernel_rfl) (by kernel_rfl) (by kernel_rfl) (by kernel_rfl) (by kernel_rfl) hS0 (Or.inr ⟨by rfl, by rfl⟩) ?_
      simp only [Act.put, List.setIfInBounds_toArray, List.set_cons_zero, List.set_cons_succ]
      refine Ht.takeS 10 (i := 27) ⟨some 70, _, _, _, _, _⟩ (undef) rfl (by kernel_rfl) (by kernel_rfl) (by kernel_rfl) (by kernel_rfl) (by kernel_rfl) hS0 (Or.inr ⟨by rfl, by rfl⟩) ?_
      simp only [Act.put, List.setIfInBounds_toArray, List.set_cons_zero, List.set_cons_succ]
      refine Ht.takeS 10 (i := 28) ⟨some 71, _, _, _, _, _⟩ (undef) rfl (by kernel_rfl) (by kernel_rfl) (by kernel_rfl) (by kernel_rfl) (by kernel_rfl) hS0 (Or.inr ⟨by rfl, by rfl⟩) ?_
      simp only [Act.put, List.setIfInBounds_toArray, List.set_cons_zero, List.set_cons_succ]
      refine Ht.takeS 10 (i := 29) ⟨some 72, _, _, _, _, _⟩ (undef) rfl (by kernel_rfl) (by kernel_rfl) (by kernel_rfl) (by kernel_rfl) (by kernel_rfl) hS0 (Or.inr ⟨by rfl, by rfl⟩) ?_
      simp only [Act.put, List.setIfInBounds_toArray, List.set_cons_zero, List.set_cons_succ]
      refine Ht.takeS 10 (i := 30) ⟨some 73, _, _, _, _, _⟩ (.bool true) rfl (by kernel_rfl) (by kernel_rfl) (by kernel_rfl) (by kernel_rfl) (by kernel_rfl) hS0 (Or.inl ⟨by rfl, by (intro X hX; go_simp)⟩) ?_
      simp only [Act.put, List.setIfInBounds_toArray, List.set_cons_zero, List.set_cons_succ]
      refine Ht.takeS 10 (i := 31) ⟨some 74, _, _, _, _, _⟩ (.bool true) rfl (by kernel_rfl) (by kernel_rfl) (by kernel_rfl) (by kernel_rfl) (by kernel_rfl) hS0 (Or.inl ⟨by rfl, by (intro X hX; go_simp)⟩) ?_
      simp only [Act.put, List.setIfInBounds_toArray, List.set_cons_zero, List.set_cons_succ]
      refine Ht.stepS (i := 32) ⟨none, _, _, _, _, _⟩ rfl (by kernel_rfl) (by rfl) (fun K hK => ?_)
      go_simp
      refine hK _ _ (fun hn => absurd (by decide) hn) (fun hnx => ?_)
      clear hK K hnx
      try simp only [Act.put, List.setIfInBounds_toArray, List.set_cons_zero, List.set_cons_succ]
      refine doneS (by kernel_rfl) ?_
      go_wp2_with fail
      exact is_leave HD.out.2.1 HH.out.1 (by have := HD.out.2.2.1; have := H4.out.2.1.l; have := HX.out.1; have := H4.out.2.1.l.2.1; omega) HD.out.2.2.2.2.2.1 HD.out.2.2.2.2.2.2.1 cR rfl
    · obtain ⟨i, hi, hlst, rfl⟩ : ∃ i, i < mm.length ∧ Lst mm (el mm i) ∧ e = .returned (.int .i64 ((i : Nat) : Int)) := by
        rcases he with ⟨h, _⟩ | ⟨i, hi, h⟩
        · exact absurd h hmm
        · exact ⟨i, by rw [HM.out]; exact hi, h⟩
      have hF := first_some (HX.out.1.old hb03) hmm
      obtain ⟨p1, hp1⟩ : ∃ x, x = (el mm i).1 := ⟨_, rfl⟩
      obtain ⟨q1, hq1⟩ : ∃ x, x = (el mm i).2 := ⟨_, rfl⟩
      have hx1 : el mm i = (p1, q1) := by rw [hp1, hq1]
      obtain ⟨g, rfl, k1, k2⟩ : ∃ g, av = some ⟨g, 0, none⟩ ∧ X3.cell? ⟨g, i * 2, none⟩ = some (ek p1) ∧ X3.cell? ⟨g, i * 2 + 1, none⟩ = some (er q1) := by
        obtain ⟨a', c', e1, e2⟩ := (HD.out.2.2.2.2.2.2.2.2.old hb3).shape
        obtain ⟨g', e3, e4⟩ := e2 hmm
        cases e1
        subst e3
        have := e4 i hi
        rw [hx1] at this
        exact ⟨g', rfl, this⟩
      unfold ek at k1
      unfold er at k2
      have hin : ((i : Nat) : Int) < ((ml : Nat) : Int) := by have := HM.out; omega
      have hi0 : (0 : Int) ≤ ((i : Nat) : Int) := by omega
      rw [hx1] at hlst
      have HE := Lib.hid (And.intro hb3 (And.intro hb03 hlst))
      clear he hleast hb3 hb03 hlst hx1 hp1 hq1 hi
      go_wp2_with fail
      refine hF.mono ?_
      rintro e X4 ⟨x, hx, rfl, hb4⟩
      obtain rfl := hx.one HE.out.2.2
      have hb24 : Below X2.heap.size X2 X4 := HE.out.1.trans (hb4.mono HE.out.1.size)
      have k1 := (hb4.cell (World.block_lt_of_cell? _ _ k1)).trans k1
      have k2 := (hb4.cell (World.block_lt_of_cell? _ _ k2)).trans k2
      have HG := Lib.hid hb24
      clear hb24 hb4 hF hx
      dsimp only [item, ek, er]
      go_wp2_with fail
      obtain ⟨V, hV⟩ : ∃ V, V = X4.alloc (.cells #[(.int .u8 p1), (.int .i64 q1)] 38) := ⟨_, rfl⟩
      rw [← hV]
      have hb4V : Below X4.heap.size X4 V := by rw [hV]; exact (Below.refl _ _).alloc (Nat.le_refl _) _
      have hbV : Below X2.heap.size X2 V := HG.out.trans (hb4V.mono HG.out.size)
      obtain ⟨cL, cR, fR⟩ := hcells V hbV
      have k1 := (hb4V.cell (World.block_lt_of_cell? _ _ k1)).trans k1
      have k2 := (hb4V.cell (World.block_lt_of_cell? _ _ k2)).trans k2
      have hx := (MapKept.heap_alloc X4 (.cells #[(.int .u8 p1), (.int .i64 q1)] 38)).1
      rw [← hV] at hx
      have y1 : V.cell? ⟨X4.heap.size, 0, none⟩ = some ((.int .u8 p1)) := by rw [cell_of_row _ _ _ _ _ _ hx]; rfl
      have y2 : V.cell? ⟨X4.heap.size, 1, none⟩ = some ((.int .i64 q1)) := by rw [cell_of_row _ _ _ _ _ _ hx]; rfl
      have hlen := fun Y (e : Below X2.heap.size X2 Y) => HX.out.2.2.2.2 Y (HD.out.2.1.trans (e.mono HD.out.2.1.size))
      rw [HM.out] at hlen
      have HH := Lib.hid (And.intro hbV hlen)
      generalize X4.heap.size = bx at y1 y2 ⊢
      clear hV hbV hlen hcells hb4V hx
      refine begin' 99 (fun _ => True) hmix trivial (fun _ => ?_)
      refine later [32] (fun X => Below X2.heap.size X2 X ∧ X.cell? ⟨L, 0, none⟩ = some (.slice ao 0 cp) ∧ X.cell? ⟨g, i * 2, none⟩ = some ((.int .u8 p1)) ∧ X.cell? ⟨g, i * 2 + 1, none⟩ = some ((.int .i64 q1)) ∧ X.cell? ⟨bx, 0, none⟩ = some ((.int .u8 p1)) ∧ X.cell? ⟨bx, 1, none⟩ = some ((.int .i64 q1))) (⟨HH.out.1.drew, cL, k1, k2, y1, y2⟩) (fun hS0 => ?_)
      refine Ht.takeS 10 (i := 0) ⟨some 43, _, _, _, _, _⟩ (.slice ao 0 cp) rfl (by kernel_rfl) (by kernel_rfl) (by kernel_rfl) (by kernel_rfl) (by kernel_rfl) hS0 (Or.inl ⟨by rfl, by (intro X hX; have := hX.2.1; go_simp)⟩) ?_
      simp only [Act.put, List.setIfInBounds_toArray, List.set_cons_zero, List.set_cons_succ]
      refine Ht.takeS 10 (i := 1) ⟨some 44, _, _, _, _, _⟩ (.int .i64 0) rfl (by kernel_rfl) (by kernel_rfl) (by kernel_rfl) (by kernel_rfl) (by kernel_rfl) hS0 (Or.inl ⟨by rfl, by (intro X hX; go_simp)⟩) ?_
      simp only [Act.put, List.setIfInBounds_toArray, List.set_cons_zero, List.set_cons_succ]
      refine Ht.takeS 10 (i := 2) ⟨some 45, _, _, _, _, _⟩ (.bool true) rfl (by kernel_rfl) (by kernel_rfl) (by kernel_rfl) (by kernel_rfl) (by kernel_rfl) hS0 (Or.inl ⟨by rfl, by (intro X hX; go_simp)⟩) ?_
      simp only [Act.put, List.setIfInBounds_toArray, List.set_cons_zero, List.set_cons_succ]
      refine Ht.takeS 10 (i := 3) ⟨some 46, _, _, _, _, _⟩ (.bool true) rfl (by kernel_rfl) (by kernel_rfl) (by kernel_rfl) (by kernel_rfl) (by kernel_rfl) hS0 (Or.inl ⟨by rfl, by (intro X hX; go_simp)⟩) ?_
      simp only [Act.put, List.setIfInBounds_toArray, List.set_cons_zero, List.set_cons_succ]
      refine Ht.takeS 10 (i := 4) ⟨some 47, _, _, _, _, _⟩ (.pointer (some ⟨hb, 0, none⟩)) rfl (by kernel_rfl) (by kernel_rfl) (by kernel_rfl) (by kernel_rfl) (by kernel_rfl) hS0 (Or.inl ⟨by rfl, by (intro X hX; go_simp)⟩) ?_
      simp only [Act.put, List.setIfInBounds_toArray, List.set_cons_zero, List.set_cons_succ]
      refine Ht.takeS 10 (i := 6) ⟨some 49, _, _, _, _, _⟩ (.slice (some ⟨g, 0, none⟩) ml cv) rfl (by kernel_rfl) (by kernel_rfl) (by kernel_rfl) (by kernel_rfl) (by kernel_rfl) hS0 (Or.inl ⟨by rfl, by (intro X hX; go_simp)⟩) ?_
      simp only [Act.put, List.setIfInBounds_toArray, List.set_cons_zero, List.set_cons_succ]
      refine Ht.takeS 10 (i := 7) ⟨some 50, _, _, _, _, _⟩ (.int .i64 ((ml : Nat) : Int)) rfl (by kernel_rfl) (by kernel_rfl) (by kernel_rfl) (by kernel_rfl) (by kernel_rfl) hS0 (Or.inl ⟨by rfl, by (intro X hX; go_simp)⟩) ?_
      simp only [Act.put, List.setIfInBounds_toArray, List.set_cons_zero, List.set_cons_succ]
      refine Ht.stepS (i := 5) ⟨some 48, _, _, _, _, _⟩ rfl (by kernel_rfl) (by rfl) (fun K hK => ?_)
      refine Ht.enter 43 #[.pointer (some ⟨hb, 0, none⟩)] (by have hen := fun args w => enters_of (P := Try.prog) Try.func43 (by kernel_rfl) rfl args w; go_simp) (HH.out.2 _ hS0.1) ?_
      rintro e Y1 ⟨rfl, hY1⟩
      subst hY1
      refine ⟨_, rfl, hK _ _ (fun hn => hS0) (fun hnx => ?_)⟩
      clear hK K hnx
      simp only [Act.put, List.setIfInBounds_toArray, List.set_cons_zero, List.set_cons_succ]
      refine Ht.takeS 10 (i := 8) ⟨some 51, _, _, _, _, _⟩ (.bool true) rfl (by kernel_rfl) (by kernel_rfl) (by kernel_rfl) (by kernel_rfl) (by kernel_rfl) hS0 (Or.inl ⟨by rfl, by (intro X hX; go_simp)⟩) ?_
      simp only [Act.put, List.setIfInBounds_toArray, List.set_cons_zero, List.set_cons_succ]
      refine Ht.takeS 10 (i := 9) ⟨some 52, _, _, _, _, _⟩ (.bool true) rfl (by kernel_rfl) (by kernel_rfl) (by kernel_rfl) (by kernel_rfl) (by kernel_rfl) hS0 (Or.inl ⟨by rfl, by (intro X hX; go_simp)⟩) ?_
      simp only [Act.put, List.setIfInBounds_toArray, List.set_cons_zero, List.set_cons_succ]
      refine Ht.takeS 10 (i := 10) ⟨some 53, _, _, _, _, _⟩ (.bool true) rfl (by kernel_rfl) (by kernel_rfl) (by kernel_rfl) (by kernel_rfl) (by kernel_rfl) hS0 (Or.inl ⟨by rfl, by (intro X hX; go_simp)⟩) ?_
      simp only [Act.put, List.setIfInBounds_toArray, List.set_cons_zero, List.set_cons_succ]
      refine Ht.takeS 10 (i := 11) ⟨some 54, _, _, _, _, _⟩ (.bool true) rfl (by kernel_rfl) (by kernel_rfl) (by kernel_rfl) (by kernel_rfl) (by kernel_rfl) hS0 (Or.inl ⟨by rfl, by (intro X hX; go_simp)⟩) ?_
      simp only [Act.put, List.setIfInBounds_toArray, List.set_cons_zero, List.set_cons_succ]
      refine Ht.takeS 10 (i := 12) ⟨some 55, _, _, _, _, _⟩ (.int .i64 ((i : Nat) : Int)) rfl (by kernel_rfl) (by kernel_rfl) (by kernel_rfl) (by kernel_rfl) (by kernel_rfl) hS0 (Or.inl ⟨by rfl, by (intro X hX; go_simp)⟩) ?_
      simp only [Act.put, List.setIfInBounds_toArray, List.set_cons_zero, List.set_cons_succ]
      refine Ht.takeS 10 (i := 13) ⟨some 56, _, _, _, _, _⟩ (.bool true) rfl (by kernel_rfl) (by kernel_rfl) (by kernel_rfl) (by kernel_rfl) (by kernel_rfl) hS0 (Or.inl ⟨by rfl, by (intro X hX; go_simp)⟩) ?_
      simp only [Act.put, List.setIfInBounds_toArray, List.set_cons_zero, List.set_cons_succ]
      refine Ht.takeS 10 (i := 14) ⟨some 57, _, _, _, _, _⟩ (.bool true) rfl (by kernel_rfl) (by kernel_rfl) (by kernel_rfl) (by kernel_rfl) (by kernel_rfl) hS0 (Or.inl ⟨by rfl, by (intro X hX; go_simp)⟩) ?_
      simp only [Act.put, List.setIfInBounds_toArray, List.set_cons_zero, List.set_cons_succ]
      refine Ht.takeS 10 (i := 15) ⟨some 58, _, _, _, _, _⟩ (.bool true) rfl (by kernel_rfl) (by kernel_rfl) (by kernel_rfl) (by kernel_rfl) (by kernel_rfl) hS0 (Or.inl ⟨by rfl, by (intro X hX; go_simp)⟩) ?_
      simp only [Act.put, List.setIfInBounds_toArray, List.set_cons_zero, List.set_cons_succ]
      refine Ht.takeS 10 (i := 16) ⟨some 59, _, _, _, _, _⟩ (.bool true) rfl (by kernel_rfl) (by kernel_rfl) (by kernel_rfl) (by kernel_rfl) (by kernel_rfl) hS0 (Or.inl ⟨by rfl, by (intro X hX; go_simp)⟩) ?_
      simp only [Act.put, List.setIfInBounds_toArray, List.set_cons_zero, List.set_cons_succ]
      refine Ht.takeS 10 (i := 17) ⟨some 60, _, _, _, _, _⟩ (.bool true) rfl (by kernel_rfl) (by kernel_rfl) (by kernel_rfl) (by kernel_rfl) (by kernel_rfl) hS0 (Or.inl ⟨by rfl, by (intro X hX; go_simp)⟩) ?_
      simp only [Act.put, List.setIfInBounds_toArray, List.set_cons_zero, List.set_cons_succ]
      refine Ht.takeS 10 (i := 18) ⟨some 61, _, _, _, _, _⟩ (.bool false) rfl (by kernel_rfl) (by kernel_rfl) (by kernel_rfl) (by kernel_rfl) (by kernel_rfl) hS0 (Or.inl ⟨by rfl, by (intro X hX; go_simp)⟩) ?_
      simp only [Act.put, List.setIfInBounds_toArray, List.set_cons_zero, List.set_cons_succ]
      refine Ht.takeS 10 (i := 19) ⟨some 62, _, _, _, _, _⟩ (.bool false) rfl (by kernel_rfl) (by kernel_rfl) (by kernel_rfl) (by kernel_rfl) (by kernel_rfl) hS0 (Or.inl ⟨by rfl, by (intro X hX; go_simp)⟩) ?_
      simp only [Act.put, List.setIfInBounds_toArray, List.set_cons_zero, List.set_cons_succ]
      refine Ht.takeS 10 (i := 20) ⟨some 63, _, _, _, _, _⟩ (.slice (some ⟨g, 0, none⟩) ml cv) rfl (by kernel_rfl) (by kernel_rfl) (by kernel_rfl) (by kernel_rfl) (by kernel_rfl) hS0 (Or.inl ⟨by rfl, by (intro X hX; go_simp)⟩) ?_
      simp only [Act.put, List.setIfInBounds_toArray, List.set_cons_zero, List.set_cons_succ]
      refine Ht.takeS 10 (i := 21) ⟨some 64, _, _, _, _, _⟩ (.int .i64 ((i : Nat) : Int)) rfl (by kernel_rfl) (by kernel_rfl) (by kernel_rfl) (by kernel_rfl) (by kernel_rfl) hS0 (Or.inl ⟨by rfl, by (intro X hX; go_simp)⟩) ?_
      simp only [Act.put, List.setIfInBounds_toArray, List.set_cons_zero, List.set_cons_succ]
      refine Ht.takeS 10 (i := 22) ⟨some 65, _, _, _, _, _⟩ (.pointer (some ⟨g, i * 2, none⟩)) rfl (by kernel_rfl) (by kernel_rfl) (by kernel_rfl) (by kernel_rfl) (by kernel_rfl) hS0 (Or.inl ⟨by rfl, by (intro X hX; go_simp)⟩) ?_
      simp only [Act.put, List.setIfInBounds_toArray, List.set_cons_zero, List.set_cons_succ]
      refine Ht.takeS 10 (i := 23) ⟨some 66, _, _, _, _, _⟩ (.agg #[(.int .u8 p1), (.int .i64 q1)]) rfl (by kernel_rfl) (by kernel_rfl) (by kernel_rfl) (by kernel_rfl) (by kernel_rfl) hS0 (Or.inl ⟨by rfl, by (intro X hX; have := And.intro hX.2.2.1 hX.2.2.2.1; go_simp)⟩) ?_
      simp only [Act.put, List.setIfInBounds_toArray, List.set_cons_zero, List.set_cons_succ]
      refine Ht.takeS 10 (i := 24) ⟨some 67, _, _, _, _, _⟩ (.pointer (some ⟨bx, 0, none⟩)) rfl (by kernel_rfl) (by kernel_rfl) (by kernel_rfl) (by kernel_rfl) (by kernel_rfl) hS0 (Or.inl ⟨by rfl, by (intro X hX; go_simp)⟩) ?_
      simp only [Act.put, List.setIfInBounds_toArray, List.set_cons_zero, List.set_cons_succ]
      refine Ht.takeS 10 (i := 25) ⟨some 68, _, _, _, _, _⟩ ((.int .u8 p1)) rfl (by kernel_rfl) (by kernel_rfl) (by kernel_rfl) (by kernel_rfl) (by kernel_rfl) hS0 (Or.inl ⟨by rfl, by (intro X hX; have := hX.2.2.2.2.1; go_simp)⟩) ?_
      simp only [Act.put, List.setIfInBounds_toArray, List.set_cons_zero, List.set_cons_succ]
      refine Ht.takeS 10 (i := 26) ⟨some 69, _, _, _, _, _⟩ (.pointer (some ⟨bx, 1, none⟩)) rfl (by kernel_rfl) (by kernel_rfl) (by kernel_rfl) (by kernel_rfl) (by kernel_rfl) hS0 (Or.inl ⟨by rfl, by (intro X hX; go_simp)⟩) ?_
      simp only [Act.put, List.setIfInBounds_toArray, List.set_cons_zero, List.set_cons_succ]
      refine Ht.takeS 10 (i := 27) ⟨some 70, _, _, _, _, _⟩ ((.int .i64 q1)) rfl (by kernel_rfl) (by kernel_rfl) (by kernel_rfl) (by kernel_rfl) (by kernel_rfl) hS0 (Or.inl ⟨by rfl, by (intro X hX; have := hX.2.2.2.2.2; go_simp)⟩) ?_
      simp only [Act.put, List.setIfInBounds_toArray, List.set_cons_zero, List.set_cons_succ]
      refine Ht.takeS 10 (i := 28) ⟨some 71, _, _, _, _, _⟩ (.agg #[(.int .u8 p1), (.int .i64 q1)]) rfl (by kernel_rfl) (by kernel_rfl) (by kernel_rfl) (by kernel_rfl) (by kernel_rfl) hS0 (Or.inl ⟨by rfl, by (intro X hX; go_simp)⟩) ?_
      simp only [Act.put, List.setIfInBounds_toArray, List.set_cons_zero, List.set_cons_succ]
      refine Ht.takeS 10 (i := 29) ⟨some 72, _, _, _, _, _⟩ (.bool true) rfl (by kernel_rfl) (by kernel_rfl) (by kernel_rfl) (by kernel_rfl) (by kernel_rfl) hS0 (Or.inl ⟨by rfl, by (intro X hX; go_simp)⟩) ?_
      simp only [Act.put, List.setIfInBounds_toArray, List.set_cons_zero, List.set_cons_succ]
      refine Ht.takeS 10 (i := 30) ⟨some 73, _, _, _, _, _⟩ (.bool true) rfl (by kernel_rfl) (by kernel_rfl) (by kernel_rfl) (by kernel_rfl) (by kernel_rfl) hS0 (Or.inl ⟨by rfl, by (intro X hX; go_simp)⟩) ?_
      simp only [Act.put, List.setIfInBounds_toArray, List.set_cons_zero, List.set_cons_succ]
      refine Ht.takeS 10 (i := 31) ⟨some 74, _, _, _, _, _⟩ (.bool true) rfl (by kernel_rfl) (by kernel_rfl) (by kernel_rfl) (by kernel_rfl) (by kernel_rfl) hS0 (Or.inl ⟨by rfl, by (intro X hX; go_simp)⟩) ?_
      simp only [Act.put, List.setIfInBounds_toArray, List.set_cons_zero, List.set_cons_succ]
      refine Ht.stepS (i := 32) ⟨none, _, _, _, _, _⟩ rfl (by kernel_rfl) (by rfl) (fun K hK => ?_)
      go_simp
      refine hK _ _ (fun hn => absurd (by decide) hn) (fun hnx => ?_)
      clear hK K hnx
      try simp only [Act.put, List.setIfInBounds_toArray, List.set_cons_zero, List.set_cons_succ]
      refine doneS (by kernel_rfl) ?_
      go_wp2_with fail
      exact is_leave HD.out.2.1 HH.out.1 (by have := HD.out.2.2.1; have := H4.out.2.1.l; have := HX.out.1; have := H4.out.2.1.l.2.1; omega) HD.out.2.2.2.2.2.1 HD.out.2.2.2.2.2.2.1 cR rfl
end Go.Proofs.Ytpeapbhhlfbolaa.HpA

