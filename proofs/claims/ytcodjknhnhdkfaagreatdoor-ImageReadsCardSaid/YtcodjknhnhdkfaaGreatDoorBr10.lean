/- all jobs of a scheduler, told: Jobs's iterator -/
import Derived.Test.YtcodjknhnhdkfaaGreatDoorBr08
import Derived.Test.YtcodjknhnhdkfaaGreatDoorBr09
import Derived.OwnWalkIn
import Derived.TacticsInMore
import Derived.LoopNIn
import Derived.LoopIn
namespace Go.Proofs.YtcodjknhnhdkfaaGreatDoor.Im
open Go.RowKit Go.Lib Go.Sort Hp Rg
set_option linter.unusedVariables false
set_option linter.unusedSectionVars false
set_option maxRecDepth 20000
attribute [local go_sem] Oper.semAt_some
theorem wpListIn_load_mid {F : Fence} {n : Nat} {P : Program} {w : World} {ops : Array Oper} {rest : List Oper} {o : Oper} {a : Act} {Q : Exit → Act → World → Prop} (hg : o.guard = none) (ty : TypeId) (x : Operand) (ho : o.op = .load ty x)
    (b off : Nat) (hx : a.eval x = .pointer (some ⟨b, off, none⟩)) (cs : List Value) (d : TypeDesc) (hc : w.rangeAt b off cs) (hu : P.underlying ty = some d) (hd : d.isRow = true) (hi : (P.info? ty).map (·.size) = some cs.length)
    (h : wpListIn F n P ops Q rest (a.put o.dst (.agg cs.toArray)) w) : wpListIn F n P ops Q (o :: rest) a w := by
  refine wpListIn_plain hg fun K hK => ?_
  unfold Oper.wpIn
  refine ⟨by simp [Oper.about, ho], ?_⟩
  rw [Oper.semAt_plain F _ _ (by rw [ho]; intro c hc'; cases hc')]
  unfold execOp
  simp only [ho, hx, Instr.loadAt, Instr.sureAddr, Sem.run_bind, Sem.run_pure, Result.andThen_ok, run_loadVar_mid w b off ty cs d hc hu hd hi]
  exact hK _ _ h
theorem yield_some (W : World) (lp : Nat) : (binOp .eql 90 (.func (.yield lp) #[] #[]) .nilFunc).run Tryz.prog W = .ok (.bool false) W := by kernel_rfl
/-- what a round is told: a job, alike to the m-th, in new memory -/
def GJ (N : Nat) (ls : List Jb) (m : Nat) (x : Jb) (A : World) : Prop := m < ls.length ∧ (∃ y, ls[m]? = some y ∧ Like y x) ∧ Jd A x ∧ Own1 A N x
theorem GJ.below {N m : Nat} {ls : List Jb} {x : Jb} {A A' : World} (h : GJ N ls m x A) (b : Below A.heap.size A A') : GJ N ls m x A' := ⟨h.1, h.2.1, h.2.2.1.old b, h.2.2.2.old b⟩
theorem GJ.but {N m l : Nat} {ls : List Jb} {x : Jb} {A A' : World} {r : Loop} (h : GJ N ls m x A) (hl : A.heap[l]? = some (.loop r)) (b : But l A A') : GJ N ls m x A' := by
  have e := h.2.2.1.kept h.2.2.2 (Y := A') fun g cur _ hc => b.2.2.2.2 g (fun e => by subst e; rw [hl] at hc; cases hc)
  exact ⟨h.1, h.2.1, e.1, e.2⟩
def encJ (x : Jb) : Array Value := #[.agg x.cs.toArray]
set_option maxHeartbeats 2000000 in
theorem jobs_iter (n n₀ n₁ N B0 BB : Nat) (w V : World) {v : Value} {js ls : List Jb} (hV : Below w.heap.size w V) (hbox : w.cell? ⟨B0, 0, none⟩ = some v) (hga : Ga BB w v ls.length js ls) (hn0 : w.heap.size ≤ n₀) (hNN : n₁ ≤ N) (hN : N ≤ V.heap.size) (hw : w.heap.size ≤ N) (hl : ls.length ≤ 1000) (hns : ∀ j ∈ ls, j.sp.n ≤ 1000000) :
    Iter Fence.wide n Tryz.prog 47 #[.pointer (some ⟨B0, 0, none⟩)] encJ n₀ n₁ N (fun m x A => GJ N ls m x A) (fun m => m = ls.length) V := by
  intro lp J W hW hJ hY h0
  have hBw := World.block_lt_of_cell? w _ hbox
  have hkW : ∀ b, b < w.heap.size → W.heap[b]? = w.heap[b]? := fun b hb => (hW.block b (by omega)).trans (hV.block b hb)
  have hcell : W.cell? ⟨B0, 0, none⟩ = some v := (World.cell?_of_block (w := w) (a := ⟨B0, 0, none⟩) (hkW B0 hBw)).trans hbox
  have hNW := Nat.le_trans hN hW.size
  obtain ⟨a, cap, rfl⟩ := hga.shape
  have hyn := fun W => yield_some W lp
  have HY := Lib.hid hY
  have HJ := Lib.hid hJ
  have H0 := Lib.hid h0
  have HR := Lib.hid (And.intro hga (And.intro hkW (And.intro hNW (And.intro hn0 (And.intro hw (And.intro hl hns))))))
  clear hY hJ h0 hW hV hbox hga hkW hNW hn0 hN hw hl hns hBw
  obtain ⟨n', hln⟩ : ∃ n, n = ls.length := ⟨_, rfl⟩
  rw [← hln] at hcell
  have HL := Lib.hid hln
  have HNN := Lib.hid hNN
  clear hln hNN
  refine callsIn_of_wp Tryz.func47 rfl trivial ?_ rfl
  simp only [Tryz.ntmps47, List.size_toArray, List.length_cons, List.length_nil, Nat.reduceAdd, Nat.reduceSub, Array.replicate_succ, Array.replicate_zero, List.push_toArray, List.append_toArray, List.nil_append, List.cons_append]
  gi_wp2_with fail
  gi_loopw [9] (fun i wr => ∃ m : Nat, i = .int .i64 ((m : Nat) : Int) ∧ m ≤ ls.length ∧ J m wr ∧ Mid n₀ n₁ N W wr) (fun i _ => ls.length - (RowKit.intOf i).toNat)
  case atStart => exact ⟨0, rfl, Nat.zero_le _, H0.out, Mid.refl _ _ _ _⟩
  case round =>
    obtain ⟨m, rfl, hm, hj, hmid⟩ := hrel
    by_cases hlt : m < ls.length
    · obtain ⟨hga, hkW, hNW, hn0, hw, hl, hns⟩ := HR.out
      have hkr : ∀ b, b < w.heap.size → wr.heap[b]? = w.heap[b]? := fun b hb => (hmid.block b (.inl (by omega)) (by omega)).trans (hkW b hb)
      have gr : Ga BB wr (.slice a ls.length cap) ls.length js ls := hga.kept fun g _ hg => hkr g hg
      obtain ⟨g, cur, rfl, hgc, hcs⟩ : ∃ g cur, a = some ⟨g, 0, none⟩ ∧ wr.heap[g]? = some (.cells cur 42 (0, 0)) ∧ cur.toList.take (ls.length * 21) = jcs ls := by
        rcases gr.own.2 with ⟨h1, h2⟩ | ⟨g, cap', cur, h1, h2, h3, h4, h5, h6, h7⟩
        · omega
        · exact ⟨g, cur, by cases h1; rfl, h3, h7⟩
      obtain ⟨x, hx⟩ : ∃ x, x = ls[m] := ⟨_, rfl⟩
      have hxm : x ∈ ls := by rw [hx]; exact List.getElem_mem _
      obtain ⟨C, hC⟩ : ∃ C, C = x.cs.toArray := ⟨_, rfl⟩
      have hCl : C.toList = x.cs := by rw [hC]
      have hrg : wr.rangeAt g (m * 21) C.toList := fun k v hv => by
        have hk : k < 21 := by have := (List.getElem?_eq_some_iff.1 hv).1; rw [hCl, Jb.len] at this; exact this
        have e := jcs_get ls m hlt k v (by rw [← hx, ← hCl]; exact hv)
        rw [← hcs, List.getElem?_take_of_lt (by omega), Array.getElem?_toList] at e
        rw [cell_of_row wr g _ cur _ _ hgc]
        exact e
      obtain ⟨Y, hYY⟩ : ∃ Y, Y = wr.alloc (.cells C 42) := ⟨_, rfl⟩
      have hbY : Below wr.heap.size wr Y := by rw [hYY]; exact (Below.refl _ _).alloc (Nat.le_refl _) _
      have hYx : Y.heap[wr.heap.size]? = some (.cells C 42 (0, 0)) := by rw [hYY]; exact heap_alloc_new wr _
      have hsc := sc_job wr C (by rw [hC]; rfl) (by rw [hCl]; exact x.one)
      rw [← hYY] at hsc
      unfold jobZ at hsc
      have hrY : (wr.alloc (.cells C 42)).rangeAt wr.heap.size 0 C.toList := by rw [← hYY]; exact Cm.range_of (by rw [hYx])
      have hinf : (Tryz.prog.info? 42).map (·.size) = some C.toList.length := by rw [hCl]; exact info_job
      have hCs : C.size = 21 := by rw [hC]; rfl
      have hJd : Jd Y x := (gr.d x hxm).1.old hbY
      have hcl := clone_any x hJd (by have := hns x hxm; omega)
      rw [← hC] at hcl
      have hltx : ((m : Nat) : Int) < ((n' : Nat) : Int) := by have := HL.out; omega
      have HX := Lib.hid (And.intro hj (And.intro hmid (And.intro hbY (And.intro hlt (And.intro hm (show ls[m]? = some x by rw [hx]; exact List.getElem?_eq_getElem hlt))))))
      clear hj hmid hbY hx hlt hm hga hkW hNW hn0 hw hl hns hkr gr hgc hcs hxm hC hCl hJd hYx
      gi_wp2_with (first | (refine wpListIn_load_mid rfl 42 _ rfl g (m * 21) rfl C.toList _ hrg Tryz.underlying42 rfl hinf ?_) | (refine wpListIn_load_mid rfl 42 _ rfl wr.heap.size 0 rfl C.toList _ hrY Tryz.underlying42 rfl hinf ?_))
      rw [← hYY]
      refine ⟨trivial, (fun h => by cases h), (callsIn_wide.2 hcl).mono ?_⟩
      rintro e Z ⟨y, rfl, hly, hbZ, hdy, hoy⟩
      have hbb : Below wr.heap.size wr Z := HX.out.2.2.1.trans (hbZ.mono HX.out.2.2.1.size)
      have hG : GJ N ls m y Z := ⟨HX.out.2.2.2.1, ⟨x, HX.out.2.2.2.2.2, hly⟩, hdy, hoy.imp_right fun ⟨g, cur, e1, e2, e3⟩ => ⟨g, cur, e1, by
        have h1 := HX.out.2.2.1.size
        have h2 := HX.out.2.1.size
        have h3 := HR.out.2.2.1
        omega, e3⟩⟩
      obtain ⟨fn, tmps, assign, body, hy, hR⟩ := HY.out m y Z (HJ.out m _ _ HX.out.1 hbb) hG
      have HYY := Lib.hid hYY
      have HB := Lib.hid hbb
      dsimp only [encJ] at hy
      clear hcl hsc hrY hYY hrg hinf hCs hly hbZ hdy hoy hG hbb
      obtain ⟨Cy, hCy⟩ : ∃ Cy, Cy = y.cs.toArray := ⟨_, rfl⟩
      rw [← hCy] at hy ⊢
      have HCy := Lib.hid hCy
      clear hCy
      gi_wp2_with fail
      refine ⟨(fun h => by cases h), hR.mono ?_⟩
      rintro e W3 ⟨rfl, hJ3, hm3⟩
      have HZ := Lib.hid (And.intro hJ3 hm3)
      clear hJ3 hm3 hR hy
      have hw1 := wrap_up (m := m) (by have := HX.out.2.2.2.2.1; have := HR.out.2.2.2.2.2.1; omega)
      gi_wp2_with fail
      exact ⟨⟨m + 1, by rw [hw1], HX.out.2.2.2.1, HZ.out.1, (HX.out.2.1.trans (Mid.of (HB.out.mono (by have h2 := HX.out.2.1.size; have h3 := HR.out.2.2.1; omega)))).trans HZ.out.2⟩, by rw [hw1]; exact meas_up HX.out.2.2.2.1⟩
    · have hltx : ((n' : Nat) : Int) ≤ ((m : Nat) : Int) := by have := HL.out; omega
      have hme : m = ls.length := by omega
      have HX := Lib.hid (And.intro hj hme)
      clear hj hme hmid hlt hm
      gi_wp2_with fail
      go_end0
      exact ⟨⟨_, rfl⟩, m, HX.out.2, HX.out.1⟩
end Go.Proofs.YtcodjknhnhdkfaaGreatDoor.Im
namespace Go.Proofs.YtcodjknhnhdkfaaGreatDoor.Im
open Go.RowKit Go.Lib Go.Sort Hp Rg
set_option linter.unusedVariables false
set_option linter.unusedSectionVars false
set_option maxRecDepth 20000
attribute [local go_sem] Oper.semAt_some
theorem wpListIn_app {F : Fence} {n : Nat} {P : Program} {w w' : World} {ops : Array Oper} {rest : List Oper} {o : Oper} {a : Act} {Q : Exit → Act → World → Prop} {v1 v2 v' : Value} (hg : o.guard = none) (s x : Operand) (t : TypeId)
    (hop : o.op = Op.call { callee := Callee.builtin Builtin.append, args := #[s, x], argTypes := #[t, t] }) (hs : a.eval s = v1) (hx : a.eval x = v2) (hr : (Builtin.append_ #[t, t] o.type #[v1, v2]).run P w = .ok v' w')
    (h : wpListIn F n P ops Q rest (a.put o.dst v') w') : wpListIn F n P ops Q (o :: rest) a w := by
  refine wpListIn_plain hg fun K hK' => ?_
  unfold Oper.wpIn
  refine ⟨?_, ?_⟩
  · simp [Oper.about, hop, resolve, Target.leads, Sem.run_pure]
  · rw [Oper.semAt_plain F _ _ (by rw [hop]; intro c hc'; cases hc')]
    simp [execOp, hop, resolve, invoke, builtin, hs, hx, hr, Result.andThen]
    exact hK' _ _ h
theorem wpListIn_buildJ {F : Fence} {n : Nat} {w : World} {ops : Array Oper} {rest : List Oper} {o : Oper} {a : Act} {Q : Exit → Act → World → Prop} (hg : o.guard = none) (x : Operand) (ho : o.op = .buildSlice 36 1 #[(0, x)]) (y : Jb) (hx : a.eval x = .agg y.cs.toArray)
    (h : wpListIn F n Tryz.prog ops Q rest (a.put o.dst (.slice (some ⟨w.heap.size, 0, none⟩) 1 1)) (w.alloc (.cells y.cs.toArray 42))) : wpListIn F n Tryz.prog ops Q (o :: rest) a w := by
  refine wpListIn_plain hg fun K hK => ?_
  have e := run_buildJ y w
  unfold Oper.wpIn
  refine ⟨by simp [Oper.about, ho], ?_⟩
  rw [Oper.semAt_plain F _ _ (by rw [ho]; intro c hc'; cases hc')]
  unfold execOp
  simp only [ho, Sem.run_bind, List.map_toArray, List.map_cons, List.map_nil, hx, e, Result.andThen_ok]
  exact hK _ _ h
/-- what has been gathered -/
def Gb (w : World) (ls : List Jb) (m : Nat) (X : World) : Prop :=
  ∃ v zs, X.heap[w.heap.size]? = some (.cells #[v] 36 (0, 0)) ∧ Ga (w.heap.size + 1) X v m ls zs ∧ Below w.heap.size w X ∧ w.heap.size + 1 ≤ X.heap.size ∧ m ≤ ls.length
theorem Gb.calm {w : World} {ls : List Jb} {m : Nat} {A A' : World} (h : Gb w ls m A) (e : Calmly (w.heap.size + 1) A A') : Gb w ls m A' := by
  obtain ⟨v, zs, h1, h2, h3, h4, h5⟩ := h
  refine ⟨v, zs, e.cell h1, ⟨e.own h2.own, h2.len, h2.like, fun y hy => Jd.kept (h2.d y hy).1 (h2.d y hy).2 fun g cur _ hc => (e.cell hc).trans hc.symm⟩, h3.trans (e.below (Nat.le_succ _) h4), Nat.le_trans h4 e.size, h5⟩
def mk1 (D : Nat) : Deferred := { target := .collected D, args := #[] }
theorem leaveV {fn : Func} {tmps : Array Value} {D r : Nat} {X : World} {v : Value} {R : Ending → World → Prop} (hres : fn.results = #[.tmp r]) (ht : tmps.getD r undef = v) (h : X.heap[D]? = some (.deferred (some []))) (hR : ∀ X', But D X X' → R (.returned v) X') :
    LeavesInM Fence.wide 3 Tryz.prog fn tmps R ([mk1 D]) .returning X := by
  refine ⟨by simp, .inl ⟨D, _, rfl, run_takeDeferred h, ?_⟩⟩
  have hbut := but_put D X (.deferred none)
  refine ⟨v, ?_, hR _ hbut⟩
  rw [results_tmp hres, ht]
theorem gb_end {w A2 W5 : World} {m a c : Nat} {ao ao' : Option Addr} {x y : Jb} {ls zs : List Jb} (hI : A2.heap[w.heap.size]? = some (.cells #[.slice ao m c] 36 (0, 0))) (hga : Ga (w.heap.size + 1) A2 (.slice ao m c) m ls zs) (h3 : Below w.heap.size w A2) (h4 : w.heap.size + 1 ≤ A2.heap.size) (hm : m < ls.length)
    (hg : Ga (w.heap.size + 1) W5 (.slice ao' (m + 1) a) (m + 1) ls (zs ++ [x])) (hf : Fr (fun b => (Value.slice ao m c).ownBlock = some b) A2 W5) :
    KeepsFrom (w.heap.size + 1) A2 (W5.setCell ⟨w.heap.size, 0, none⟩ (.slice ao' (m + 1) a)) ∧ Mid w.heap.size (w.heap.size + 1) (w.heap.size + 1) A2 (W5.setCell ⟨w.heap.size, 0, none⟩ (.slice ao' (m + 1) a)) ∧ Gb w ls (m + 1) (W5.setCell ⟨w.heap.size, 0, none⟩ (.slice ao' (m + 1) a)) := by
  obtain ⟨W', hW⟩ : ∃ W', W' = W5.setCell ⟨w.heap.size, 0, none⟩ (.slice ao' (m + 1) a) := ⟨_, rfl⟩
  rw [← hW]
  have oth : ∀ k, k ≠ w.heap.size → W'.heap[k]? = W5.heap[k]? := fun k hk => by rw [hW]; exact heap_setCell_other _ _ _ _ hk
  have hz : W'.heap.size = W5.heap.size := by rw [hW]; simp [World.setCell]
  have hfs := hf.size
  have hown : ∀ b, (Value.slice ao m c).ownBlock = some b → w.heap.size + 1 ≤ b ∧ b < A2.heap.size ∧ ∃ cur, A2.heap[b]? = some (.cells cur 42 (0, 0)) := fun b e => own_block hga.own e
  have hn0 : ¬ (Value.slice ao m c).ownBlock = some w.heap.size := fun e => by have := (hown _ e).1; omega
  have hb5 : W5.heap[w.heap.size]? = some (.cells #[.slice ao m c] 36 (0, 0)) := (hf.block _ (by omega) hn0).trans hI
  have hb : W'.heap[w.heap.size]? = some (.cells #[.slice ao' (m + 1) a] 36 (0, 0)) := by rw [hW, Lib.heap_setCell_same hb5]; rfl
  have hos : W'.os = W5.os ∧ W'.tape = W5.tape ∧ W'.output = W5.output := by rw [hW]; exact ⟨rfl, rfl, rfl⟩
  refine ⟨⟨by omega, fun k o hk hko hoc => ?_⟩, ⟨hos.1.trans hf.os, hos.2.1.trans hf.tape, hos.2.2.trans hf.output, by omega, fun k h1 h2 => ?_⟩, _, _, hb, hg.kept fun g hg1 _ => oth g (by omega), ⟨?_, ?_, ?_, by have := h3.size; omega, fun k hk => ?_⟩, by omega, hm⟩
  · have hlt := (Array.getElem?_eq_some_iff.1 hko).1
    rw [oth k (by omega), hf.block k hlt (fun e => by obtain ⟨_, _, cur, hc⟩ := hown k e; rw [hko] at hc; cases hc; cases hoc)]
    exact hko
  · have hkA : k < A2.heap.size := by omega
    rw [oth k (by omega)]
    exact hf.block k hkA (fun e => by have := (hown k e).1; omega)
  · exact hos.1.trans (hf.os.trans h3.os)
  · exact hos.2.1.trans (hf.tape.trans h3.tape)
  · exact hos.2.2.trans (hf.output.trans h3.output)
  · rw [oth k (by omega), hf.block k (by omega) (fun e => by have := (hown k e).1; omega)]
    exact h3.block k hk
set_option maxHeartbeats 2000000 in
theorem appendSeq_any (w : World) (B0 BB : Nat) {v0 : Value} {js ls : List Jb} (hbox : w.cell? ⟨B0, 0, none⟩ = some v0) (hga : Ga BB w v0 ls.length js ls) (hl : ls.length ≤ 1000) (hns : ∀ j ∈ ls, j.sp.n ≤ 1000000) :
    Calls Tryz.prog 44 #[.slice none 0 0, .func (.func 47) #[] #[.pointer (some ⟨B0, 0, none⟩)]] w fun e w' => ∃ v zs, e = .returned v ∧ Ga (w.heap.size + 1) w' v ls.length ls zs ∧ Below w.heap.size w w' := by
  obtain ⟨V, hV⟩ : ∃ V, V = w.alloc (.cells #[.slice none 0 0] 36) := ⟨_, rfl⟩
  have hbV : Below w.heap.size w V := by rw [hV]; exact (Below.refl _ w).alloc (Nat.le_refl _) _
  have hzV : V.heap.size = w.heap.size + 1 := by rw [hV]; simp
  have h0V : V.heap[w.heap.size]? = some (.cells #[.slice none 0 0] 36 (0, 0)) := by rw [hV]; exact (MapKept.heap_alloc w _).1
  have hit := jobs_iter (n := 2) w.heap.size (w.heap.size + 1) V.heap.size B0 BB w V hbV hbox hga (Nat.le_refl _) (by omega) (Nat.le_refl _) (by omega) hl hns
  have HI := Lib.hid (And.intro hit (And.intro hbV (And.intro hzV (And.intro h0V hl))))
  clear hbox hga hit hbV hzV h0V hl hns
  refine (callsIn_wide (n := 3)).1 ?_
  refine callsIn_of_wp_marks Tryz.func44 rfl trivial ?_ rfl
  simp only [Tryz.ntmps44, List.size_toArray, List.length_cons, List.length_nil, Nat.reduceAdd, Nat.reduceSub, Array.replicate_succ, Array.replicate_zero, List.push_toArray, List.append_toArray, List.nil_append, List.cons_append]
  refine wpIn_wide.2 ?_
  go_wp2_with fail
  rw [← hV]
  clear hV
  refine (wpIn_wide (n := 3)).1 ?_
  refine range_exit (br := false) rfl (by omega) (gf := 47) (lb := #[.pointer (some ⟨B0, 0, none⟩)]) rfl trivial (enters_of Tryz.func47 (by kernel_rfl) rfl)
    (HI.out.1.x) (fun _ => rfl) (fun m X => Gb w ls m X) (fun _ _ _ => False) (fun m A A' h e => h.calm (by rw [← HI.out.2.2.1]; exact e)) (fun _ _ _ _ h _ => h) (fun _ _ _ h => h.elim) ?h0 (fun m x A A' h b => h.below b) (fun m x A A' l r h hl b => h.but hl b) ?hround ?hdone (fun _ _ _ _ _ h _ => h.elim)
  case h0 => exact ⟨_, [], HI.out.2.2.2.1, Ga.nil _ _ _, HI.out.2.1, by rw [HI.out.2.2.1]; exact Nat.le_refl _, Nat.zero_le _⟩
  case hround =>
    rintro lp m x X hlB ⟨rr, hlr⟩ hI hG
    dsimp only [encJ]
    obtain ⟨C, hC⟩ : ∃ C, C = x.cs.toArray := ⟨_, rfl⟩
    have hCl : C.toList = x.cs := by rw [hC]
    have hsc := sc_job X C (by rw [hC]; rfl) (by rw [hCl]; exact x.one)
    unfold jobZ at hsc
    have hCs : C.size = 21 := by rw [hC]; rfl
    rw [← hC]
    have HC := Lib.hid (And.intro hC hCl)
    clear hC hCl
    gi_wp2_with fail
    refine ⟨(Below.refl _ _).alloc (Nat.le_refl _) _, ?_⟩
    intro A2 hbut hI2 hG2
    have hlX := (Array.getElem?_eq_some_iff.1 hlr).1
    have hx : A2.heap[X.heap.size]? = some (.cells C 42 (0, 0)) := (hbut.2.2.2.2 _ (by omega)).trans (heap_alloc_new X _)
    have hrX : A2.rangeAt X.heap.size 0 C.toList := Cm.range_of (by rw [hx])
    have hinf : (Tryz.prog.info? 42).map (·.size) = some C.toList.length := by rw [HC.out.2]; exact info_job
    obtain ⟨v, zs, i1, i2, i3, i4, i5⟩ := hI2
    obtain ⟨ao, cp, rfl⟩ := i2.shape
    obtain ⟨hml, ⟨y0, hy0, hlk⟩, hd, ho⟩ := hG2
    rw [HI.out.2.2.1] at ho
    obtain ⟨v', W5, hra, gw, fw⟩ := i2.push (by omega) (Below.refl _ A2) hy0 hlk hd ho (by have := HI.out.2.2.2.2; omega) 36
    rw [← HC.out.1] at hra
    obtain ⟨ao', cp', rfl⟩ := gw.shape
    have c1 : A2.cell? ⟨w.heap.size, 0, none⟩ = some (.slice ao m cp) := by rw [cell_of_row _ _ _ _ _ _ i1]; rfl
    have hfin := gb_end (y := x) i1 i2 i3 i4 hml gw fw
    have hb5 : W5.heap[w.heap.size]? = some (.cells #[.slice ao m cp] 36 (0, 0)) := (fw.block _ (by omega) (fun e => by have := (own_block i2.own e).1; omega)).trans i1
    have c5 : W5.cell? ⟨w.heap.size, 0, none⟩ = some (.slice ao m cp) := by rw [cell_of_row _ _ _ _ _ _ hb5]; rfl
    have f5 : W5.frozen? ⟨w.heap.size, 0, none⟩ = false := by simp [World.frozen?, hb5]
    have HF := Lib.hid hfin
    clear hI hG hbut hlr hlX hx i1 i2 i3 i4 i5 hml hy0 hlk hd ho gw fw hfin hb5 hsc
    gi_wp2_with (first | (refine wpListIn_load_mid rfl 42 _ rfl X.heap.size 0 rfl C.toList _ hrX Tryz.underlying42 rfl hinf ?_) | (refine wpListIn_buildJ rfl _ rfl x (by rw [← HC.out.1]; rfl) ?_; rw [← HC.out.1]) | (gi_at_builtin; refine wpListIn_app rfl _ _ 36 rfl rfl rfl hra ?_))
    rw [HI.out.2.2.1]
    exact HF.out
  case hdone =>
    intro D m2 X hD hS hI hK
    subst hS
    obtain ⟨v, zs, i1, i2, i3, i4, i5⟩ := hI
    obtain ⟨ao, cp, rfl⟩ := i2.shape
    have c1 : X.cell? ⟨w.heap.size, 0, none⟩ = some (.slice ao ls.length cp) := by rw [cell_of_row _ _ _ _ _ _ i1]; rfl
    have hfin : ∀ X', But D X X' → Ga (w.heap.size + 1) X' (.slice ao ls.length cp) ls.length ls zs ∧ Below w.heap.size w X' := fun X' hbut => by
      have hcalm : Calmly V.heap.size X X' := Calmly.but' hbut hD hK rfl
      refine ⟨⟨hcalm.own i2.own, i2.len, i2.like, fun y hy => Jd.kept (i2.d y hy).1 (i2.d y hy).2 fun g cur _ hc => (hcalm.cell hc).trans hc.symm⟩, i3.trans (hbut.below (by have := HI.out.2.2.1; omega))⟩
    have HX := Lib.hid (And.intro hfin (And.intro hD hK))
    clear hfin hD hK i1 i2 i3 i4 i5
    dsimp only
    go_wp2_with fail
    exact leaveV rfl rfl HX.out.2.2 fun X' hbut => ⟨_, _, rfl, HX.out.1 X' hbut⟩
theorem collect_any (w : World) (B0 BB : Nat) {v0 : Value} {js ls : List Jb} (hbox : w.cell? ⟨B0, 0, none⟩ = some v0) (hga : Ga BB w v0 ls.length js ls) (hl : ls.length ≤ 1000) (hns : ∀ j ∈ ls, j.sp.n ≤ 1000000) :
    Calls Tryz.prog 22 #[.func (.func 47) #[] #[.pointer (some ⟨B0, 0, none⟩)]] w fun e w' => ∃ v zs, e = .returned v ∧ Ga (w.heap.size + 1) w' v ls.length ls zs ∧ Below w.heap.size w w' := by
  have ha := appendSeq_any w B0 BB hbox hga hl hns
  obtain ⟨n', hn'⟩ : ∃ n, n = ls.length := ⟨_, rfl⟩
  have HN := Lib.hid hn'
  clear hbox hga hn'
  go_enter Tryz.func22, Tryz.ntmps22
  go_wp2_with fail
  refine ha.mono ?_
  rintro e w1 ⟨v, zs, rfl, h1, h2⟩
  have H1 := Lib.hid (And.intro h1 h2)
  obtain ⟨a, c, rfl⟩ := h1.shape
  clear h1 h2 ha
  go_wp2_with fail
  go_ret
  exact ⟨_, _, rfl, H1.out⟩
end Go.Proofs.YtcodjknhnhdkfaaGreatDoor.Im
namespace Go.Proofs.YtcodjknhnhdkfaaGreatDoor.Im
open Go.RowKit Go.Lib Wn Rf By Cm
set_option linter.unusedVariables false
set_option linter.unusedSectionVars false
set_option maxRecDepth 20000
/-- an image's bytes -/
def imgB (now : Int) (each order : Nat) (js : List Jb) : List UInt8 := Sp.zz now ++ (uvarint each ++ (uvarint order ++ (uvarint js.length ++ js.flatMap jobB)))
/-- two rows alike, one by one -/
def Alike (l m : List Jb) : Prop := l.length = m.length ∧ ∀ (i : Nat) (x y : Jb), l[i]? = some x → m[i]? = some y → Like x y
theorem Alike.cons {x y : Jb} {l m : List Jb} (h : Alike (x :: l) (y :: m)) : Like x y ∧ Alike l m :=
  ⟨h.2 0 x y rfl rfl, by have := h.1; simpa using this, fun i a b ha hb => h.2 (i + 1) a b (by simpa using ha) (by simpa using hb)⟩
theorem Alike.bytes : ∀ {l m : List Jb}, Alike l m → m.flatMap jobB = l.flatMap jobB
  | [], [], _ => rfl
  | [], y :: m, h => by have := h.1; simp at this
  | x :: l, [], h => by have := h.1; simp at this
  | x :: l, y :: m, h => by
    simp only [List.flatMap_cons]
    rw [h.cons.1.bytes, h.cons.2.bytes]
theorem Alike.ok : ∀ {l m : List Jb}, Alike l m → (∀ x ∈ l, x.wf ∧ x.med) → ∀ y ∈ m, y.wf ∧ y.med
  | [], [], _, _, y, hy => by simp at hy
  | [], y :: m, h, _, _, _ => by have := h.1; simp at this
  | x :: l, [], _, _, y, hy => by simp at hy
  | x :: l, y :: m, h, k, z, hz => by
    rcases List.mem_cons.1 hz with rfl | hz
    · exact ⟨h.cons.1.wf (k x (by simp)).1, h.cons.1.med (k x (by simp)).2⟩
    · exact h.cons.2.ok (fun a ha => k a (by simp [ha])) z hz
theorem Ga.alike {B : Nat} {w : World} {v : Value} {js ls : List Jb} (h : Ga B w v js.length js ls) : Alike js ls := ⟨h.len.symm, h.like⟩
theorem Ga.js {B k : Nat} {w : World} {a : Option Addr} {c : Nat} {js ls : List Jb} (h : Ga B w (.slice a k c) k js ls) : Js w a k ls ∧ Ahd w a ls := by
  have hsh : (k = 0 ∧ a = none ∧ ls = []) ∨ ∃ g cur, a = some ⟨g, 0, none⟩ ∧ w.heap[g]? = some (.cells cur 42 (0, 0)) ∧ cur.toList.take (k * 21) = jcs ls := by
    rcases h.own.2 with ⟨h1, h2⟩ | ⟨g, cap', cur, h1, h2, h3, h4, h5, h6, h7⟩
    · have e : k = 0 := h2
      cases h1
      exact .inl ⟨e, rfl, List.eq_nil_of_length_eq_zero (h.len.trans e)⟩
    · exact .inr ⟨g, cur, by cases h1; rfl, h3, h7⟩
  refine ⟨⟨h.len, fun e => ?_, ?_, fun j hj => (h.d j hj).1⟩, fun b o e => ?_, fun j hj => (h.d j hj).2.typed⟩
  · rcases hsh with ⟨h1, _⟩ | ⟨g, cur, h1, _⟩
    · exact h1
    · rw [h1] at e; cases e
  · rcases hsh with ⟨h1, _⟩ | ⟨g, cur, h1, h2, h3⟩
    · exact .inl h1
    · refine .inr ⟨g, h1, fun i hi k' v hv => ?_⟩
      have hk : k' < 21 := by have := (List.getElem?_eq_some_iff.1 hv).1; rw [Jb.len] at this; exact this
      have e := jcs_get ls i hi k' v hv
      rw [← h3, List.getElem?_take_of_lt (by have := h.len; omega), Array.getElem?_toList] at e
      rw [cell_of_row w g _ cur _ _ h2]
      exact e
  · rcases hsh with ⟨_, h1, _⟩ | ⟨g, cur, h1, h2, _⟩
    · rw [h1] at e; cases e
    · rw [h1] at e
      obtain ⟨rfl, rfl⟩ : g = b ∧ 0 = o := by simpa using e
      exact ⟨cur, h2⟩
section
variable {w : World} {sb mb wb : Nat} {jb : K → Nat} {now : Int} {each : Nat} {order : Nat} {js : List Jb}
set_option maxHeartbeats 4000000 in
theorem Of_any (h : Sq w sb mb wb jb now ((each : Nat) : Int) order js) (hf : ∀ j ∈ js, j.wf ∧ j.med) (hnow : Sp.W64 now) (heach : each ≤ 100000) (hord : U64 order) (hlen : (js.flatMap jobB).length ≤ 300000) :
    Calls Tryz.prog 6 #[.pointer (some ⟨sb, 0, none⟩)] w fun e w' => ∃ a n c, e = .returned (.slice a n c) ∧ IsB w' a n c (imgB now each order js) ∧ Below w.heap.size w w' := by
  obtain ⟨V, hV⟩ : ∃ V, V = w.alloc (.cells #[.slice none 0 0] 49) := ⟨_, rfl⟩
  have hbV : Below w.heap.size w V := by rw [hV]; exact (Below.refl _ _).alloc (Nat.le_refl _) _
  have hzV : V.heap.size = w.heap.size + 1 := by rw [hV]; simp
  have hwV : Wr (w.heap.size + 1) V w.heap.size [] := by rw [hV]; exact wr_new w _
  have hwe : IntKind.u64.wrap ((each : Nat) : Int) = ((each : Nat) : Int) := by rw [IntKind.wrap_u64]; omega
  have H := Lib.hid (And.intro h (And.intro hf (And.intro hnow (And.intro hord (And.intro hlen (And.intro hbV hzV))))))
  have hsb := World.block_lt_of_cell? w _ h.cell.1
  have hno := now_any (h.old hbV)
  have HW := Lib.hid hwV
  clear h hf hnow hord hlen hbV hzV hwV hsb
  go_enter Tryz.func6, Tryz.ntmps6
  go_wp2_with fail
  rw [← hV]
  have HV := Lib.hid hV
  clear hV
  refine hno.mono ?_
  rintro e w1 ⟨rfl, rfl⟩
  have hc := int_w (w.heap.size + 1) w.heap.size now [] w1 H.out.2.2.1 (Nat.lt_succ_self _) (Nat.le_of_eq H.out.2.2.2.2.2.2.symm) HW.out (by simp)
  clear hno
  go_wp2_with fail
  refine hc.mono ?_
  rintro e w2 ⟨rfl, hw2, hf2⟩
  clear hc
  obtain ⟨M1, hM1⟩ : ∃ M, M = [] ++ Sp.zz now := ⟨_, rfl⟩
  rw [← hM1] at hw2
  have g1 : M1.length ≤ 10 := by rw [hM1]; exact Sp.zz_len H.out.2.2.1
  have b2 : Below w.heap.size w w2 := H.out.2.2.2.2.2.1.trans (hf2.below (Nat.le_succ _) (Nat.le_refl _))
  have z2 : w.heap.size + 1 ≤ w2.heap.size := Nat.le_trans (Nat.le_of_eq H.out.2.2.2.2.2.2.symm) hf2.size
  have he := each_any (H.out.1.old b2)
  have H2 := Lib.hid (And.intro hw2 (And.intro hM1 (And.intro b2 z2)))
  clear hw2 hM1 b2 z2 hf2
  go_wp2_with fail
  refine he.mono ?_
  rintro e w3 ⟨rfl, rfl⟩
  have hc := num_w (w.heap.size + 1) w.heap.size each M1 w3 (by unfold U64; omega) (Nat.lt_succ_self _) H2.out.2.2.2 H2.out.1 (by omega)
  clear he
  go_wp2_with fail
  refine hc.mono ?_
  rintro e w4 ⟨rfl, hw4, hf4⟩
  clear hc
  obtain ⟨M2, hM2⟩ : ∃ M, M = M1 ++ uvarint each := ⟨_, rfl⟩
  rw [← hM2] at hw4
  have g2 : M2.length ≤ 20 := by
    have : (uvarint each).length ≤ 10 := uvarint_length64 (show U64 each by unfold U64; omega)
    rw [hM2, List.length_append]; omega
  have b4 : Below w.heap.size w w4 := H2.out.2.2.1.trans (hf4.below (Nat.le_succ _) (Nat.le_refl _))
  have z4 : w.heap.size + 1 ≤ w4.heap.size := Nat.le_trans H2.out.2.2.2 hf4.size
  have ho := order_any (H.out.1.old b4)
  have H4 := Lib.hid (And.intro hw4 (And.intro hM2 (And.intro b4 z4)))
  clear hw4 hM2 b4 z4 hf4
  go_wp2_with fail
  refine ho.mono ?_
  rintro e w5 ⟨rfl, rfl⟩
  have hc := num_w (w.heap.size + 1) w.heap.size order M2 w5 H.out.2.2.2.1 (Nat.lt_succ_self _) H4.out.2.2.2 H4.out.1 (by omega)
  clear ho
  go_wp2_with fail
  refine hc.mono ?_
  rintro e w6 ⟨rfl, hw6, hf6⟩
  clear hc
  obtain ⟨M3, hM3⟩ : ∃ M, M = M2 ++ uvarint order := ⟨_, rfl⟩
  rw [← hM3] at hw6
  have g3 : M3.length ≤ 30 := by
    have : (uvarint order).length ≤ 10 := uvarint_length64 H.out.2.2.2.1
    rw [hM3, List.length_append]; omega
  have b6 : Below w.heap.size w w6 := H4.out.2.2.1.trans (hf6.below (Nat.le_succ _) (Nat.le_refl _))
  have z6 : w.heap.size + 1 ≤ w6.heap.size := Nat.le_trans H4.out.2.2.2 hf6.size
  have hj := Jobs_any (H.out.1.old b6)
  have H6 := Lib.hid (And.intro hw6 (And.intro hM3 (And.intro b6 z6)))
  clear hw6 hM3 b6 z6 hf6
  go_wp2_with fail
  refine hj.mono ?_
  rintro e w7 ⟨rfl, v0, ls, hbx, hga, hb7⟩
  have hal := hga.alike
  have hlen := hal.1
  rw [hlen] at hga
  have hcl := collect_any w7 w6.heap.size (w6.heap.size + 1) (cell_of_one hbx) hga (by have := H.out.1.few; omega) (fun j hj => by
    obtain ⟨i, hi, e⟩ := List.getElem_of_mem hj
    have hi2 : i < js.length := by omega
    have h1 := hal.2 i js[i] j (List.getElem?_eq_getElem hi2) (by rw [← e]; exact List.getElem?_eq_getElem hi)
    rw [h1.n]
    exact (H.out.1.job _ (List.getElem_mem hi2)).2.2.2)
  have H7 := Lib.hid (And.intro hal (And.intro hlen hb7))
  clear hj hbx hga hb7 hal hlen
  go_wp2_with fail
  refine hcl.mono ?_
  rintro e w8 ⟨v, zs, rfl, hga, hb8⟩
  obtain ⟨a, c, rfl⟩ := hga.shape
  have hal := hga.alike
  obtain ⟨hJs, hAh⟩ := hga.js
  have b68 : Below w6.heap.size w6 w8 := H7.out.2.2.trans (hb8.mono H7.out.2.2.size)
  have hw8 : Wr (w.heap.size + 1) w8 w.heap.size M3 := H6.out.1.below b68 (by have := H6.out.2.2.2; omega) (fun k hk => hk)
  have hbytes : zs.flatMap jobB = js.flatMap jobB := hal.bytes.trans H7.out.1.bytes
  have hp := put_j (w.heap.size + 1) w.heap.size a ls.length c zs M3 w8 hJs hAh (hal.ok (H7.out.1.ok H.out.2.1)) (Nat.lt_succ_self _) (by have := b68.size; have := H6.out.2.2.2; omega) hw8 (by rw [hbytes]; have := H.out.2.2.2.2.1; omega) (by have := H.out.1.few; have := H7.out.2.1; omega)
  rw [hbytes] at hp
  have H8 := Lib.hid (And.intro b68 hw8)
  clear hga hb8 hal hJs hAh b68 hw8 hbytes hcl
  go_wp2_with fail
  refine hp.mono ?_
  rintro e w9 ⟨rfl, hw9, hf9⟩
  clear hp
  obtain ⟨M4, hM4⟩ : ∃ M, M = M3 ++ (uvarint ls.length ++ js.flatMap jobB) := ⟨_, rfl⟩
  rw [← hM4] at hw9
  have hM : imgB now each order js = M4 := by
    unfold imgB
    rw [hM4, ← H7.out.2.1, H6.out.2.1, H4.out.2.1, H2.out.2.1]
    simp only [List.nil_append, List.append_assoc]
  have hl4 : M4.length ≤ 400000 := by
    have : (uvarint ls.length).length ≤ 10 := uvarint_length64 (show U64 ls.length by unfold U64; have := H.out.1.few; have := H7.out.2.1; omega)
    have := H.out.2.2.2.2.1
    rw [hM4]
    simp only [List.length_append]
    omega
  have hbt := bytes_any _ _ M4 w9 hw9 (by omega)
  have b9 : Below w.heap.size w w9 := H6.out.2.2.1.trans ((H8.out.1.mono (by have := H6.out.2.2.2; omega)).trans (hf9.below (Nat.le_succ _) (Nat.le_refl _)))
  have H9 := Lib.hid (And.intro hM b9)
  clear hw9 hf9 hM4 hM hl4 b9
  go_wp2_with fail
  refine hbt.mono ?_
  rintro e w10 ⟨v', rfl, hown, hb10⟩
  obtain ⟨a', c', rfl, hib⟩ := isB_own hown
  have HZ := Lib.hid (And.intro hib (H9.out.2.trans (hb10.mono H9.out.2.size)))
  clear hown hib hb10 hbt
  go_wp2_with fail
  go_ret
  rw [H9.out.1]
  exact ⟨_, _, _, rfl, HZ.out⟩
end
end Go.Proofs.YtcodjknhnhdkfaaGreatDoor.Im
