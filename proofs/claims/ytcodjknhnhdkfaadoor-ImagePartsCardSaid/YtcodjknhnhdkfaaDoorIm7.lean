
/- all jobs of a scheduler, told: Jobs's iterator -/
import Derived.Test.YtcodjknhnhdkfaaDoorIm6
import Derived.Test.YtcodjknhnhdkfaaDoorRx
import Derived.OwnWalkIn
import Derived.TacticsInMore
import Derived.LoopNIn
import Derived.LoopIn
namespace Go.Proofs.YtcodjknhnhdkfaaDoor.Im
open Go.RowKit Go.Lib Go.Sort Hp Rg
set_option linter.unusedVariables false
set_option linter.unusedSectionVars false
set_option maxRecDepth 20000
attribute [local go_sem] Oper.semAt_some
theorem wpListIn_load_mid {F : Fence} {n : Nat} {P : Program} {w : World} {ops : Array Oper} {rest : List Oper} {o : Oper} {a : Act} {Q : Exit → Act → World → Prop} (hg : o.guard = none) (ty : TypeId) (x : Operand) (ho : o.op = .load ty x)
    (b off : Nat) (hx : a.eval x = .pointer (some ⟨b, off, none⟩)) (cs : List Value) (d : TypeDesc) (hc : w.rangeAt b off cs) (hu : P.underlying ty = some d) (hd : d.isRow = true) (hi : (P.info? ty).map (·.size) = some cs.length)
    (h : wpListIn F n P ops Q rest (a.put o.dst (.agg cs.toArray)) w) : wpListIn F n P ops Q (o :: rest) a w := by
  refine wpListIn_plain hg fun K hK => ?_
  unfold Oper.wpIn
  refine ⟨by simp [Oper.about, ho], ?_⟩
  rw [Oper.semAt_plain F _ _ (by rw [ho]; intro c hc'; cases hc')]
  unfold execOp
  simp only [ho, hx, Instr.loadAt, Instr.sureAddr, Sem.run_bind, Sem.run_pure, Result.andThen_ok, run_loadVar_mid w b off ty cs d hc hu hd hi]
  exact hK _ _ h
theorem yield_some (W : World) (lp : Nat) : (binOp .eql 80 (.func (.yield lp) #[] #[]) .nilFunc).run Tryd.prog W = .ok (.bool false) W := by kernel_rfl
/-- what a round is told: a job, alike to the m-th, in new memory -/
def GJ (N : Nat) (ls : List Jb) (m : Nat) (x : Jb) (A : World) : Prop := m < ls.length ∧ (∃ y, ls[m]? = some y ∧ Like y x) ∧ Jd A x ∧ Own1 A N x
theorem GJ.below {N m : Nat} {ls : List Jb} {x : Jb} {A A' : World} (h : GJ N ls m x A) (b : Below A.heap.size A A') : GJ N ls m x A' := ⟨h.1, h.2.1, h.2.2.1.old b, h.2.2.2.old b⟩
theorem GJ.but {N m l : Nat} {ls : List Jb} {x : Jb} {A A' : World} {r : Loop} (h : GJ N ls m x A) (hl : A.heap[l]? = some (.loop r)) (b : But l A A') : GJ N ls m x A' := by
  have e := h.2.2.1.kept h.2.2.2 (Y := A') fun g cur _ hc => b.2.2.2.2 g (fun e => by subst e; rw [hl] at hc; cases hc)
  exact ⟨h.1, h.2.1, e.1, e.2⟩
def encJ (x : Jb) : Array Value := #[.agg x.cs.toArray]
set_option maxHeartbeats 2000000 in
theorem jobs_iter (n n₀ n₁ N B0 BB : Nat) (w V : World) {v : Value} {js ls : List Jb} (hV : Below w.heap.size w V) (hbox : w.cell? ⟨B0, 0, none⟩ = some v) (hga : Ga BB w v ls.length js ls) (hn0 : w.heap.size ≤ n₀) (hNN : n₁ ≤ N) (hN : N ≤ V.heap.size) (hw : w.heap.size ≤ N) (hl : ls.length ≤ 1000) (hns : ∀ j ∈ ls, j.sp.n ≤ 1000000) :
    Iter Fence.wide n Tryd.prog 33 #[.pointer (some ⟨B0, 0, none⟩)] encJ n₀ n₁ N (fun m x A => GJ N ls m x A) (fun m => m = ls.length) V := by
  intro lp J W hW hJ hY h0
  have hBw := World.block_lt_of_cell? w _ hbox
  have hkW : ∀ b, b < w.heap.size → W.heap[b]? = w.heap[b]? := fun b hb => (hW.block b (by omega)).trans (hV.block b hb)
  have hcell : W.cell? ⟨B0, 0, none⟩ = some v := (World.cell?_of_block (w := w) (a := ⟨B0, 0, none⟩) (hkW B0 hBw)).trans hbox
  have hNW := Nat.le_trans hN hW.size
  obtain ⟨a, cap, rfl⟩ := hga.shape
  have hyn := fun W => yield_some W lp
  have HY := Lib.hid hY
  have HJ := Lib.hid hJ
  have H0 := Lib.hid h0
  have HR := Lib.hid (And.intro hga (And.intro hkW (And.intro hNW (And.intro hn0 (And.intro hw (And.intro hl hns))))))
  clear hY hJ h0 hW hV hbox hga hkW hNW hn0 hN hw hl hns hBw
  obtain ⟨n', hln⟩ : ∃ n, n = ls.length := ⟨_, rfl⟩
  rw [← hln] at hcell
  have HL := Lib.hid hln
  have HNN := Lib.hid hNN
  clear hln hNN
  refine callsIn_of_wp Tryd.func33 rfl trivial ?_ rfl
  simp only [Tryd.ntmps33, List.size_toArray, List.length_cons, List.length_nil, Nat.reduceAdd, Nat.reduceSub, Array.replicate_succ, Array.replicate_zero, List.push_toArray, List.append_toArray, List.nil_append, List.cons_append]
  gi_wp2_with fail
  gi_loopw [9] (fun i wr => ∃ m : Nat, i = .int .i64 ((m : Nat) : Int) ∧ m ≤ ls.length ∧ J m wr ∧ Mid n₀ n₁ N W wr) (fun i _ => ls.length - (RowKit.intOf i).toNat)
  case atStart => exact ⟨0, rfl, Nat.zero_le _, H0.out, Mid.refl _ _ _ _⟩
  case round =>
    obtain ⟨m, rfl, hm, hj, hmid⟩ := hrel
    by_cases hlt : m < ls.length
    · obtain ⟨hga, hkW, hNW, hn0, hw, hl, hns⟩ := HR.out
      have hkr : ∀ b, b < w.heap.size → wr.heap[b]? = w.heap[b]? := fun b hb => (hmid.block b (.inl (by omega)) (by omega)).trans (hkW b hb)
      have gr : Ga BB wr (.slice a ls.length cap) ls.length js ls := hga.kept fun g _ hg => hkr g hg
      obtain ⟨g, cur, rfl, hgc, hcs⟩ : ∃ g cur, a = some ⟨g, 0, none⟩ ∧ wr.heap[g]? = some (.cells cur 52 (0, 0)) ∧ cur.toList.take (ls.length * 21) = jcs ls := by
        rcases gr.own.2 with ⟨h1, h2⟩ | ⟨g, cap', cur, h1, h2, h3, h4, h5, h6, h7⟩
        · omega
        · exact ⟨g, cur, by cases h1; rfl, h3, h7⟩
      obtain ⟨x, hx⟩ : ∃ x, x = ls[m] := ⟨_, rfl⟩
      have hxm : x ∈ ls := by rw [hx]; exact List.getElem_mem _
      obtain ⟨C, hC⟩ : ∃ C, C = x.cs.toArray := ⟨_, rfl⟩
      have hCl : C.toList = x.cs := by rw [hC]
      have hrg : wr.rangeAt g (m * 21) C.toList := fun k v hv => by
        have hk : k < 21 := by have := (List.getElem?_eq_some_iff.1 hv).1; rw [hCl, Jb.len] at this; exact this
        have e := jcs_get ls m hlt k v (by rw [← hx, ← hCl]; exact hv)
        rw [← hcs, List.getElem?_take_of_lt (by omega), Array.getElem?_toList] at e
        rw [cell_of_row wr g _ cur _ _ hgc]
        exact e
      obtain ⟨Y, hYY⟩ : ∃ Y, Y = wr.alloc (.cells C 52) := ⟨_, rfl⟩
      have hbY : Below wr.heap.size wr Y := by rw [hYY]; exact (Below.refl _ _).alloc (Nat.le_refl _) _
      have hYx : Y.heap[wr.heap.size]? = some (.cells C 52 (0, 0)) := by rw [hYY]; exact heap_alloc_new wr _
      have hsc := sc_job wr C (by rw [hC]; rfl) (by rw [hCl]; exact x.one)
      rw [← hYY] at hsc
      unfold jobZ at hsc
      have hrY : (wr.alloc (.cells C 52)).rangeAt wr.heap.size 0 C.toList := by rw [← hYY]; exact Cm.range_of (by rw [hYx])
      have hinf : (Tryd.prog.info? 52).map (·.size) = some C.toList.length := by rw [hCl]; exact info_job
      have hCs : C.size = 21 := by rw [hC]; rfl
      have hJd : Jd Y x := (gr.d x hxm).1.old hbY
      have hcl := clone_any x hJd (by have := hns x hxm; omega)
      rw [← hC] at hcl
      have hltx : ((m : Nat) : Int) < ((n' : Nat) : Int) := by have := HL.out; omega
      have HX := Lib.hid (And.intro hj (And.intro hmid (And.intro hbY (And.intro hlt (And.intro hm (show ls[m]? = some x by rw [hx]; exact List.getElem?_eq_getElem hlt))))))
      clear hj hmid hbY hx hlt hm hga hkW hNW hn0 hw hl hns hkr gr hgc hcs hxm hC hCl hJd hYx
      gi_wp2_with (first | (refine wpListIn_load_mid rfl 52 _ rfl g (m * 21) rfl C.toList _ hrg Tryd.underlying52 rfl hinf ?_) | (refine wpListIn_load_mid rfl 52 _ rfl wr.heap.size 0 rfl C.toList _ hrY Tryd.underlying52 rfl hinf ?_))
      rw [← hYY]
      refine ⟨trivial, (fun h => by cases h), (callsIn_wide.2 hcl).mono ?_⟩
      rintro e Z ⟨y, rfl, hly, hbZ, hdy, hoy⟩
      have hbb : Below wr.heap.size wr Z := HX.out.2.2.1.trans (hbZ.mono HX.out.2.2.1.size)
      have hG : GJ N ls m y Z := ⟨HX.out.2.2.2.1, ⟨x, HX.out.2.2.2.2.2, hly⟩, hdy, hoy.imp_right fun ⟨g, cur, e1, e2, e3⟩ => ⟨g, cur, e1, by
        have h1 := HX.out.2.2.1.size
        have h2 := HX.out.2.1.size
        have h3 := HR.out.2.2.1
        omega, e3⟩⟩
      obtain ⟨fn, tmps, assign, body, hy, hR⟩ := HY.out m y Z (HJ.out m _ _ HX.out.1 hbb) hG
      have HYY := Lib.hid hYY
      have HB := Lib.hid hbb
      dsimp only [encJ] at hy
      clear hcl hsc hrY hYY hrg hinf hCs hly hbZ hdy hoy hG hbb
      obtain ⟨Cy, hCy⟩ : ∃ Cy, Cy = y.cs.toArray := ⟨_, rfl⟩
      rw [← hCy] at hy ⊢
      have HCy := Lib.hid hCy
      clear hCy
      gi_wp2_with fail
      refine ⟨(fun h => by cases h), hR.mono ?_⟩
      rintro e W3 ⟨rfl, hJ3, hm3⟩
      have HZ := Lib.hid (And.intro hJ3 hm3)
      clear hJ3 hm3 hR hy
      have hw1 := wrap_up (m := m) (by have := HX.out.2.2.2.2.1; have := HR.out.2.2.2.2.2.1; omega)
      gi_wp2_with fail
      exact ⟨⟨m + 1, by rw [hw1], HX.out.2.2.2.1, HZ.out.1, (HX.out.2.1.trans (Mid.of (HB.out.mono (by have h2 := HX.out.2.1.size; have h3 := HR.out.2.2.1; omega)))).trans HZ.out.2⟩, by rw [hw1]; exact meas_up HX.out.2.2.2.1⟩
    · have hltx : ((n' : Nat) : Int) ≤ ((m : Nat) : Int) := by have := HL.out; omega
      have hme : m = ls.length := by omega
      have HX := Lib.hid (And.intro hj hme)
      clear hj hme hmid hlt hm
      gi_wp2_with fail
      go_end0
      exact ⟨⟨_, rfl⟩, m, HX.out.2, HX.out.1⟩
end Go.Proofs.YtcodjknhnhdkfaaDoor.Im
