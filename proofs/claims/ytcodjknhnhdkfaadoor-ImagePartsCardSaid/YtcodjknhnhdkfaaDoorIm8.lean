
/- all jobs of a scheduler, gathered again: slices.Collect -/
import Derived.Test.YtcodjknhnhdkfaaDoorIm7
namespace Go.Proofs.YtcodjknhnhdkfaaDoor.Im
open Go.RowKit Go.Lib Go.Sort Hp Rg
set_option linter.unusedVariables false
set_option linter.unusedSectionVars false
set_option maxRecDepth 20000
attribute [local go_sem] Oper.semAt_some
theorem wpListIn_app {F : Fence} {n : Nat} {P : Program} {w w' : World} {ops : Array Oper} {rest : List Oper} {o : Oper} {a : Act} {Q : Exit → Act → World → Prop} {v1 v2 v' : Value} (hg : o.guard = none) (s x : Operand) (t : TypeId)
    (hop : o.op = Op.call { callee := Callee.builtin Builtin.append, args := #[s, x], argTypes := #[t, t] }) (hs : a.eval s = v1) (hx : a.eval x = v2) (hr : (Builtin.append_ #[t, t] o.type #[v1, v2]).run P w = .ok v' w')
    (h : wpListIn F n P ops Q rest (a.put o.dst v') w') : wpListIn F n P ops Q (o :: rest) a w := by
  refine wpListIn_plain hg fun K hK' => ?_
  unfold Oper.wpIn
  refine ⟨?_, ?_⟩
  · simp [Oper.about, hop, resolve, Target.leads, Sem.run_pure]
  · rw [Oper.semAt_plain F _ _ (by rw [hop]; intro c hc'; cases hc')]
    simp [execOp, hop, resolve, invoke, builtin, hs, hx, hr, Result.andThen]
    exact hK' _ _ h
theorem wpListIn_buildJ {F : Fence} {n : Nat} {w : World} {ops : Array Oper} {rest : List Oper} {o : Oper} {a : Act} {Q : Exit → Act → World → Prop} (hg : o.guard = none) (x : Operand) (ho : o.op = .buildSlice 53 1 #[(0, x)]) (y : Jb) (hx : a.eval x = .agg y.cs.toArray)
    (h : wpListIn F n Tryd.prog ops Q rest (a.put o.dst (.slice (some ⟨w.heap.size, 0, none⟩) 1 1)) (w.alloc (.cells y.cs.toArray 52))) : wpListIn F n Tryd.prog ops Q (o :: rest) a w := by
  refine wpListIn_plain hg fun K hK => ?_
  have e := run_buildJ y w
  unfold Oper.wpIn
  refine ⟨by simp [Oper.about, ho], ?_⟩
  rw [Oper.semAt_plain F _ _ (by rw [ho]; intro c hc'; cases hc')]
  unfold execOp
  simp only [ho, Sem.run_bind, List.map_toArray, List.map_cons, List.map_nil, hx, e, Result.andThen_ok]
  exact hK _ _ h
/-- what has been gathered -/
def Gb (w : World) (ls : List Jb) (m : Nat) (X : World) : Prop :=
  ∃ v zs, X.heap[w.heap.size]? = some (.cells #[v] 53 (0, 0)) ∧ Ga (w.heap.size + 1) X v m ls zs ∧ Below w.heap.size w X ∧ w.heap.size + 1 ≤ X.heap.size ∧ m ≤ ls.length
theorem Gb.calm {w : World} {ls : List Jb} {m : Nat} {A A' : World} (h : Gb w ls m A) (e : Calmly (w.heap.size + 1) A A') : Gb w ls m A' := by
  obtain ⟨v, zs, h1, h2, h3, h4, h5⟩ := h
  refine ⟨v, zs, e.cell h1, ⟨e.own h2.own, h2.len, h2.like, fun y hy => Jd.kept (h2.d y hy).1 (h2.d y hy).2 fun g cur _ hc => (e.cell hc).trans hc.symm⟩, h3.trans (e.below (Nat.le_succ _) h4), Nat.le_trans h4 e.size, h5⟩
def mk1 (D : Nat) : Deferred := { target := .collected D, args := #[] }
theorem leaveV {fn : Func} {tmps : Array Value} {D r : Nat} {X : World} {v : Value} {R : Ending → World → Prop} (hres : fn.results = #[.tmp r]) (ht : tmps.getD r undef = v) (h : X.heap[D]? = some (.deferred (some []))) (hR : ∀ X', But D X X' → R (.returned v) X') :
    LeavesInM Fence.wide 3 Tryd.prog fn tmps R ([mk1 D]) .returning X := by
  refine ⟨by simp, .inl ⟨D, _, rfl, run_takeDeferred h, ?_⟩⟩
  have hbut := but_put D X (.deferred none)
  refine ⟨v, ?_, hR _ hbut⟩
  rw [results_tmp hres, ht]
theorem gb_end {w A2 W5 : World} {m a c : Nat} {ao ao' : Option Addr} {x y : Jb} {ls zs : List Jb} (hI : A2.heap[w.heap.size]? = some (.cells #[.slice ao m c] 53 (0, 0))) (hga : Ga (w.heap.size + 1) A2 (.slice ao m c) m ls zs) (h3 : Below w.heap.size w A2) (h4 : w.heap.size + 1 ≤ A2.heap.size) (hm : m < ls.length)
    (hg : Ga (w.heap.size + 1) W5 (.slice ao' (m + 1) a) (m + 1) ls (zs ++ [x])) (hf : Fr (fun b => (Value.slice ao m c).ownBlock = some b) A2 W5) :
    KeepsFrom (w.heap.size + 1) A2 (W5.setCell ⟨w.heap.size, 0, none⟩ (.slice ao' (m + 1) a)) ∧ Mid w.heap.size (w.heap.size + 1) (w.heap.size + 1) A2 (W5.setCell ⟨w.heap.size, 0, none⟩ (.slice ao' (m + 1) a)) ∧ Gb w ls (m + 1) (W5.setCell ⟨w.heap.size, 0, none⟩ (.slice ao' (m + 1) a)) := by
  obtain ⟨W', hW⟩ : ∃ W', W' = W5.setCell ⟨w.heap.size, 0, none⟩ (.slice ao' (m + 1) a) := ⟨_, rfl⟩
  rw [← hW]
  have oth : ∀ k, k ≠ w.heap.size → W'.heap[k]? = W5.heap[k]? := fun k hk => by rw [hW]; exact heap_setCell_other _ _ _ _ hk
  have hz : W'.heap.size = W5.heap.size := by rw [hW]; simp [World.setCell]
  have hfs := hf.size
  have hown : ∀ b, (Value.slice ao m c).ownBlock = some b → w.heap.size + 1 ≤ b ∧ b < A2.heap.size ∧ ∃ cur, A2.heap[b]? = some (.cells cur 52 (0, 0)) := fun b e => own_block hga.own e
  have hn0 : ¬ (Value.slice ao m c).ownBlock = some w.heap.size := fun e => by have := (hown _ e).1; omega
  have hb5 : W5.heap[w.heap.size]? = some (.cells #[.slice ao m c] 53 (0, 0)) := (hf.block _ (by omega) hn0).trans hI
  have hb : W'.heap[w.heap.size]? = some (.cells #[.slice ao' (m + 1) a] 53 (0, 0)) := by rw [hW, Lib.heap_setCell_same hb5]; rfl
  have hos : W'.os = W5.os ∧ W'.tape = W5.tape ∧ W'.output = W5.output := by rw [hW]; exact ⟨rfl, rfl, rfl⟩
  refine ⟨⟨by omega, fun k o hk hko hoc => ?_⟩, ⟨hos.1.trans hf.os, hos.2.1.trans hf.tape, hos.2.2.trans hf.output, by omega, fun k h1 h2 => ?_⟩, _, _, hb, hg.kept fun g hg1 _ => oth g (by omega), ⟨?_, ?_, ?_, by have := h3.size; omega, fun k hk => ?_⟩, by omega, hm⟩
  · have hlt := (Array.getElem?_eq_some_iff.1 hko).1
    rw [oth k (by omega), hf.block k hlt (fun e => by obtain ⟨_, _, cur, hc⟩ := hown k e; rw [hko] at hc; cases hc; cases hoc)]
    exact hko
  · have hkA : k < A2.heap.size := by omega
    rw [oth k (by omega)]
    exact hf.block k hkA (fun e => by have := (hown k e).1; omega)
  · exact hos.1.trans (hf.os.trans h3.os)
  · exact hos.2.1.trans (hf.tape.trans h3.tape)
  · exact hos.2.2.trans (hf.output.trans h3.output)
  · rw [oth k (by omega), hf.block k (by omega) (fun e => by have := (hown k e).1; omega)]
    exact h3.block k hk
set_option maxHeartbeats 2000000 in
theorem appendSeq_any (w : World) (B0 BB : Nat) {v0 : Value} {js ls : List Jb} (hbox : w.cell? ⟨B0, 0, none⟩ = some v0) (hga : Ga BB w v0 ls.length js ls) (hl : ls.length ≤ 1000) (hns : ∀ j ∈ ls, j.sp.n ≤ 1000000) :
    Calls Tryd.prog 30 #[.slice none 0 0, .func (.func 33) #[] #[.pointer (some ⟨B0, 0, none⟩)]] w fun e w' => ∃ v zs, e = .returned v ∧ Ga (w.heap.size + 1) w' v ls.length ls zs ∧ Below w.heap.size w w' := by
  obtain ⟨V, hV⟩ : ∃ V, V = w.alloc (.cells #[.slice none 0 0] 53) := ⟨_, rfl⟩
  have hbV : Below w.heap.size w V := by rw [hV]; exact (Below.refl _ w).alloc (Nat.le_refl _) _
  have hzV : V.heap.size = w.heap.size + 1 := by rw [hV]; simp
  have h0V : V.heap[w.heap.size]? = some (.cells #[.slice none 0 0] 53 (0, 0)) := by rw [hV]; exact (MapKept.heap_alloc w _).1
  have hit := jobs_iter (n := 2) w.heap.size (w.heap.size + 1) V.heap.size B0 BB w V hbV hbox hga (Nat.le_refl _) (by omega) (Nat.le_refl _) (by omega) hl hns
  have HI := Lib.hid (And.intro hit (And.intro hbV (And.intro hzV (And.intro h0V hl))))
  clear hbox hga hit hbV hzV h0V hl hns
  refine (callsIn_wide (n := 3)).1 ?_
  refine callsIn_of_wp_marks Tryd.func30 rfl trivial ?_ rfl
  simp only [Tryd.ntmps30, List.size_toArray, List.length_cons, List.length_nil, Nat.reduceAdd, Nat.reduceSub, Array.replicate_succ, Array.replicate_zero, List.push_toArray, List.append_toArray, List.nil_append, List.cons_append]
  refine wpIn_wide.2 ?_
  go_wp2_with fail
  rw [← hV]
  clear hV
  refine (wpIn_wide (n := 3)).1 ?_
  refine range_exit (br := false) rfl (by omega) (gf := 33) (lb := #[.pointer (some ⟨B0, 0, none⟩)]) rfl trivial (enters_of Tryd.func33 (by kernel_rfl) rfl)
    (HI.out.1.x) (fun _ => rfl) (fun m X => Gb w ls m X) (fun _ _ _ => False) (fun m A A' h e => h.calm (by rw [← HI.out.2.2.1]; exact e)) (fun _ _ _ _ h _ => h) (fun _ _ _ h => h.elim) ?h0 (fun m x A A' h b => h.below b) (fun m x A A' l r h hl b => h.but hl b) ?hround ?hdone (fun _ _ _ _ _ h _ => h.elim)
  case h0 => exact ⟨_, [], HI.out.2.2.2.1, Ga.nil _ _ _, HI.out.2.1, by rw [HI.out.2.2.1]; exact Nat.le_refl _, Nat.zero_le _⟩
  case hround =>
    rintro lp m x X hlB ⟨rr, hlr⟩ hI hG
    dsimp only [encJ]
    obtain ⟨C, hC⟩ : ∃ C, C = x.cs.toArray := ⟨_, rfl⟩
    have hCl : C.toList = x.cs := by rw [hC]
    have hsc := sc_job X C (by rw [hC]; rfl) (by rw [hCl]; exact x.one)
    unfold jobZ at hsc
    have hCs : C.size = 21 := by rw [hC]; rfl
    rw [← hC]
    have HC := Lib.hid (And.intro hC hCl)
    clear hC hCl
    gi_wp2_with fail
    refine ⟨(Below.refl _ _).alloc (Nat.le_refl _) _, ?_⟩
    intro A2 hbut hI2 hG2
    have hlX := (Array.getElem?_eq_some_iff.1 hlr).1
    have hx : A2.heap[X.heap.size]? = some (.cells C 52 (0, 0)) := (hbut.2.2.2.2 _ (by omega)).trans (heap_alloc_new X _)
    have hrX : A2.rangeAt X.heap.size 0 C.toList := Cm.range_of (by rw [hx])
    have hinf : (Tryd.prog.info? 52).map (·.size) = some C.toList.length := by rw [HC.out.2]; exact info_job
    obtain ⟨v, zs, i1, i2, i3, i4, i5⟩ := hI2
    obtain ⟨ao, cp, rfl⟩ := i2.shape
    obtain ⟨hml, ⟨y0, hy0, hlk⟩, hd, ho⟩ := hG2
    rw [HI.out.2.2.1] at ho
    obtain ⟨v', W5, hra, gw, fw⟩ := i2.push (by omega) (Below.refl _ A2) hy0 hlk hd ho (by have := HI.out.2.2.2.2; omega) 53
    rw [← HC.out.1] at hra
    obtain ⟨ao', cp', rfl⟩ := gw.shape
    have c1 : A2.cell? ⟨w.heap.size, 0, none⟩ = some (.slice ao m cp) := by rw [cell_of_row _ _ _ _ _ _ i1]; rfl
    have hfin := gb_end (y := x) i1 i2 i3 i4 hml gw fw
    have hb5 : W5.heap[w.heap.size]? = some (.cells #[.slice ao m cp] 53 (0, 0)) := (fw.block _ (by omega) (fun e => by have := (own_block i2.own e).1; omega)).trans i1
    have c5 : W5.cell? ⟨w.heap.size, 0, none⟩ = some (.slice ao m cp) := by rw [cell_of_row _ _ _ _ _ _ hb5]; rfl
    have f5 : W5.frozen? ⟨w.heap.size, 0, none⟩ = false := by simp [World.frozen?, hb5]
    have HF := Lib.hid hfin
    clear hI hG hbut hlr hlX hx i1 i2 i3 i4 i5 hml hy0 hlk hd ho gw fw hfin hb5 hsc
    gi_wp2_with (first | (refine wpListIn_load_mid rfl 52 _ rfl X.heap.size 0 rfl C.toList _ hrX Tryd.underlying52 rfl hinf ?_) | (refine wpListIn_buildJ rfl _ rfl x (by rw [← HC.out.1]; rfl) ?_; rw [← HC.out.1]) | (gi_at_builtin; refine wpListIn_app rfl _ _ 53 rfl rfl rfl hra ?_))
    rw [HI.out.2.2.1]
    exact HF.out
  case hdone =>
    intro D m2 X hD hS hI hK
    subst hS
    obtain ⟨v, zs, i1, i2, i3, i4, i5⟩ := hI
    obtain ⟨ao, cp, rfl⟩ := i2.shape
    have c1 : X.cell? ⟨w.heap.size, 0, none⟩ = some (.slice ao ls.length cp) := by rw [cell_of_row _ _ _ _ _ _ i1]; rfl
    have hfin : ∀ X', But D X X' → Ga (w.heap.size + 1) X' (.slice ao ls.length cp) ls.length ls zs ∧ Below w.heap.size w X' := fun X' hbut => by
      have hcalm : Calmly V.heap.size X X' := Calmly.but' hbut hD hK rfl
      refine ⟨⟨hcalm.own i2.own, i2.len, i2.like, fun y hy => Jd.kept (i2.d y hy).1 (i2.d y hy).2 fun g cur _ hc => (hcalm.cell hc).trans hc.symm⟩, i3.trans (hbut.below (by have := HI.out.2.2.1; omega))⟩
    have HX := Lib.hid (And.intro hfin (And.intro hD hK))
    clear hfin hD hK i1 i2 i3 i4 i5
    dsimp only
    go_wp2_with fail
    exact leaveV rfl rfl HX.out.2.2 fun X' hbut => ⟨_, _, rfl, HX.out.1 X' hbut⟩
theorem collect_any (w : World) (B0 BB : Nat) {v0 : Value} {js ls : List Jb} (hbox : w.cell? ⟨B0, 0, none⟩ = some v0) (hga : Ga BB w v0 ls.length js ls) (hl : ls.length ≤ 1000) (hns : ∀ j ∈ ls, j.sp.n ≤ 1000000) :
    Calls Tryd.prog 18 #[.func (.func 33) #[] #[.pointer (some ⟨B0, 0, none⟩)]] w fun e w' => ∃ v zs, e = .returned v ∧ Ga (w.heap.size + 1) w' v ls.length ls zs ∧ Below w.heap.size w w' := by
  have ha := appendSeq_any w B0 BB hbox hga hl hns
  obtain ⟨n', hn'⟩ : ∃ n, n = ls.length := ⟨_, rfl⟩
  have HN := Lib.hid hn'
  clear hbox hga hn'
  go_enter Tryd.func18, Tryd.ntmps18
  go_wp2_with fail
  refine ha.mono ?_
  rintro e w1 ⟨v, zs, rfl, h1, h2⟩
  have H1 := Lib.hid (And.intro h1 h2)
  obtain ⟨a, c, rfl⟩ := h1.shape
  clear h1 h2 ha
  go_wp2_with fail
  go_ret
  exact ⟨_, _, rfl, H1.out⟩
end Go.Proofs.YtcodjknhnhdkfaaDoor.Im
