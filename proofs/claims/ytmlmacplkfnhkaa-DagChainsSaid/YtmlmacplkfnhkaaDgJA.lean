
/- graphs: walks: a step -/
import Derived.Test.YtmlmacplkfnhkaaDgIA
import Derived.Test.YtmlmacplkfnhkaaMw
namespace Go.Proofs.Ytmlmacplkfnhkaa.DgA
open Go.RowKit Go.Lib Hp Mv Dg Ht Ao
set_option linter.unusedVariables false
set_option maxRecDepth 20000
attribute [local go_sem] Oper.semAt_some
theorem info_parts {P : Program} {t : TypeId} {z : Option Value} {a b : Nat} (h : (P.info? t).map (fun i => (i.zero, i.size, i.bytes)) = some (z, a, b)) : ∃ i, P.info? t = some i ∧ i.zero = z ∧ i.size = a ∧ i.bytes = b := by
  cases e : P.info? t with
  | none => rw [e] at h; cases h
  | some i => rw [e] at h; simp only [Option.map_some, Option.some.injEq, Prod.mk.injEq] at h; exact ⟨i, rfl, h.1, h.2.1, h.2.2⟩
theorem infoId : (Try.prog.info? 44).map (fun i => (i.zero, i.size, i.bytes)) = some (some (.agg #[.int .i64 0, .bool false]), 2, 16) := by kernel_rfl
theorem rc_one (l : List Id) : ∀ u ∈ rc l, u.oneCell' = true := by
  induction l with
  | nil => intro u h; simp [rc] at h
  | cons x l ih =>
    intro u h
    simp only [rc, List.mem_cons] at h
    rcases h with rfl | rfl | h
    · rfl
    · rfl
    · exact ih u h
section
variable {T O : Nat → Prop} {w : World} {wb fb : Nat} {rv : Value} {ns : List Id} {R : Id → Id → Bool} {fid : FuncId} {cb : Nat} {nx : Id → Nat} {F : Id → Bool} {n : Nat} {rest : List Id}
/-- one id more in the row -/
theorem push_id {Z : World} {v : Value} {l : List Id} (y : Id) (hown : Z.ownsRow 0 44 2 v l.length (rc l)) (hn : l.length ≤ 1000000) (ad : Addr) (hc : Z.cell? (ad.add 0) = some (kv y.1) ∧ Z.cell? (ad.add 1) = some (.bool y.2)) (ty : TypeId) :
    ∃ v' w', (Builtin.append_ #[88, 88] ty #[v, .slice (some ad) 1 1]).run Try.prog Z = .ok v' w' ∧ w'.ownsRow 0 44 2 v' (l ++ [y]).length (rc (l ++ [y])) ∧ Z.grownBy w' v.ownBlock ∧ (v'.ownBlock = v.ownBlock ∨ ∃ g, v'.ownBlock = some g ∧ Z.heap.size ≤ g) := by
  obtain ⟨i0, hi, hz0, hz1, hz2⟩ := info_parts infoId
  obtain ⟨v', w', hr, h1, h2, h3⟩ := run_append_own_new (P := Try.prog) Z 0 88 ty 44 i0 (.agg #[.int .i64 0, .bool false]) 2 16 Try.underlying88 hi hz0 hz1 hz2 rfl (by decide) v l.length (rc l) hown ad 1 1 (rc [y]) rfl
    (fun j u hu => by
      match j, hu with
      | 0, hu => simp [rc] at hu; rw [← hu]; exact hc.1
      | 1, hu => simp [rc] at hu; rw [← hu]; exact hc.2
      | j + 2, hu => simp [rc] at hu) (rc_one _) (by unfold maxLen; omega) (by omega) (Nat.zero_le _)
  refine ⟨v', w', hr, ?_, h2, h3⟩
  rw [rc_app, show (l ++ [y]).length = l.length + 1 by simp]; exact h1
theorem wp_app {o : Oper} {a : Act} {w w' : World} {K : Act → World → Prop} {Q : Exit → Act → World → Prop} {t : TypeId} {v1 v2 v' : Value} (s x : Operand) (ho : o.op = .call { callee := .builtin .append, args := #[s, x], argTypes := #[t, t] }) (h1 : a.eval s = v1) (h2 : a.eval x = v2)
    (hr : (Builtin.append_ #[t, t] o.type #[v1, v2]).run Try.prog w = .ok v' w') (h : K (a.put o.dst v') w') : o.wp Try.prog a w K Q := by
  unfold Oper.wp execOp
  simp only [ho, resolve, invoke, builtin, Sem.run_bind, Sem.run_pure, Result.andThen_ok, List.map_toArray, List.map_cons, List.map_nil, h1, h2, hr]
  exact h
/-- what a step leaves -/
def Stepped (T O : Nat → Prop) (w w' : World) (wb fb : Nat) (ns : List Id) (R : Id → Id → Bool) (fid : FuncId) (cb : Nat) (nx : Id → Nat) (s : Id) (m : Nat) : Prop :=
  ∃ O' rv' F' n' rest', Wk T O' w' wb fb rv' ns R fid cb nx F' n' rest' ∧ WI R s (fun x => F' x = true) rest' ∧ Fr O w w' ∧ (∀ k, O' k → O k ∨ w.heap.size ≤ k) ∧ ns.length - n' + rest'.length < m
/-- a step under way: of x these are told -/
structure Wj (T O : Nat → Prop) (w : World) (wb fb : Nat) (ns : List Id) (R : Id → Id → Bool) (fid : FuncId) (cb : Nat) (nx : Id → Nat) (s x : Id) (m r : Nat) (X : World) (es : List Id) (cnt : Nat) (O' : Nat → Prop) (rv' : Value) (F' : Id → Bool) (n' : Nat) (rest' : List Id) : Prop where
  mem : Wk T O' X wb fb rv' ns R fid cb nx F' n' rest'
  wj : WJ R s x es (fun x => F' x = true) rest'
  rg : Rgs Try.prog 44 ek wk X (nx x) r (sf fun y => R x y) es cnt
  fr : Fr O w X
  new : ∀ k, O' k → O k ∨ w.heap.size ≤ k
  nr : ¬ O' r ∧ w.heap.size ≤ r
  tx : T (nx x)
  ms : ns.length - n' + rest'.length < m
theorem Wj.below {s x : Id} {m r : Nat} {X Y : World} {es : List Id} {cnt : Nat} {O' : Nat → Prop} {rv' : Value} {F' : Id → Bool} {n' : Nat} {rest' : List Id} (h : Wj T O w wb fb ns R fid cb nx s x m r X es cnt O' rv' F' n' rest') (b : Below X.heap.size X Y) : Wj T O w wb fb ns R fid cb nx s x m r Y es cnt O' rv' F' n' rest' :=
  ⟨h.mem.below b (Nat.le_refl _), h.wj, h.rg.kept (b.block _ (h.mem.nxt.size _ h.tx)) (b.block _ h.rg.lt), h.fr.trans (Fr.of_below (S := fun _ => False) b) (fun _ e => e.elim), h.new, h.nr, h.tx, h.ms⟩
/-- the last one is taken out of the row -/
theorem Wk.pop {i : List Id} {x : Id} {g c : Nat} (h : Wk T O w wb fb (.slice (some ⟨g, 0, none⟩) (i.length + 1) c) ns R fid cb nx F n (i ++ [x])) (hgw : g ≠ wb) (hrow : w.ownsRow 0 44 2 (.slice (some ⟨g, 0, none⟩) i.length c) i.length (rc i)) :
    Wk T O ((w.setCell ⟨wb, 2, none⟩ (.slice (some ⟨g, 0, none⟩) i.length c)).alloc (.cells #[kv x.1, .bool x.2] 44)) wb fb (.slice (some ⟨g, 0, none⟩) i.length c) ns R fid cb nx F n i ∧ Fr O w ((w.setCell ⟨wb, 2, none⟩ (.slice (some ⟨g, 0, none⟩) i.length c)).alloc (.cells #[kv x.1, .bool x.2] 44)) ∧
    ((w.setCell ⟨wb, 2, none⟩ (.slice (some ⟨g, 0, none⟩) i.length c)).alloc (.cells #[kv x.1, .bool x.2] 44)).cell? ⟨w.heap.size, 0, none⟩ = some (kv x.1) ∧ ((w.setCell ⟨wb, 2, none⟩ (.slice (some ⟨g, 0, none⟩) i.length c)).alloc (.cells #[kv x.1, .bool x.2] 44)).cell? ⟨w.heap.size, 1, none⟩ = some (.bool x.2) := by
  obtain ⟨U, hU⟩ : ∃ U, U = w.setCell ⟨wb, 2, none⟩ (.slice (some ⟨g, 0, none⟩) i.length c) := ⟨_, rfl⟩
  rw [← hU]
  have sz : U.heap.size = w.heap.size := by rw [hU]; simp
  have ot : ∀ k, k ≠ wb → U.heap[k]? = w.heap[k]? := fun k hk => by rw [hU]; exact heap_setCell_other _ _ _ _ hk
  have ho : U.heap[wb]? = some (.cells #[fnv fid cb, .map (some fb), .slice (some ⟨g, 0, none⟩) i.length c] 90 (0, 0)) := by rw [hU, Lib.heap_setCell_same h.obj]; rfl
  have fU : Fr O w U := ⟨by rw [hU]; rfl, by rw [hU]; rfl, by rw [hU]; rfl, by rw [sz]; exact Nat.le_refl _, fun k _ hn => ot k (fun e => hn (e ▸ h.ownW))⟩
  have k1 : Wk T O U wb fb (.slice (some ⟨g, 0, none⟩) i.length c) ns R fid cb nx F n i := ⟨h.nxt.kept (by rw [sz]; exact Nat.le_refl _) (fun k hk => ot k (fun e => h.dis k hk (e ▸ h.ownW))), ho, h.found.kept (ot fb (h.found.ne h.obj)), own_kept hrow (fun b hb => ot b (by cases hb; exact hgw)), h.fin, fun y hy => h.rin y (by simp [hy]), by have := h.len; simp at this; omega, h.ownW, h.ownF, fun b hb => h.ownR b hb, h.dis, fun k hk => by rw [sz]; exact h.size k hk⟩
  have bb := below_new U (.cells #[kv x.1, .bool x.2] 44)
  have ci := cell_id U x
  rw [sz] at ci
  exact ⟨k1.below bb (Nat.le_refl _), fU.trans (Fr.of_below (S := fun _ => False) bb) (fun _ e => e.elim), ci⟩
/-- one more is found -/
theorem Wk.push {y : Id} {Y Z Z' : World} {v' : Value} (h : Wk T O w wb fb rv ns R fid cb nx F n rest) (hy : y ∈ ns) (hF : F y = false) (gY : w.grownBy Y (some fb)) (hm : Mq Y fb (n + 1) (Mv.upd (sf F) y unit)) (hZ : Below Y.heap.size Y Z)
    (hv : Z'.ownsRow 0 44 2 v' (rest ++ [y]).length (rc (rest ++ [y]))) (gZ : Z.grownBy Z' rv.ownBlock) (hb : v'.ownBlock = rv.ownBlock ∨ ∃ g, v'.ownBlock = some g ∧ Z.heap.size ≤ g) :
    Wk T (fun k => O k ∨ v'.ownBlock = some k) (Z'.setCell ⟨wb, 2, none⟩ v') wb fb v' ns R fid cb nx (fun z => decide (z = y) || F z) (n + 1) (rest ++ [y]) ∧ Fr O w (Z'.setCell ⟨wb, 2, none⟩ v') ∧ ∀ k, (O k ∨ v'.ownBlock = some k) → O k ∨ w.heap.size ≤ k := by
  have s1 := gY.size
  have s2 := hZ.size
  have s3 := gZ.size
  have hwl := h.size wb h.ownW
  have hfl := h.found.lt
  have rvw : ∀ b, rv.ownBlock = some b → b ≠ wb ∧ b ≠ fb ∧ b < w.heap.size := fun b e => by
    obtain ⟨h0, h1 | ⟨g, cap, cur, rfl, hB, hg, _⟩⟩ := h.row
    · rw [h1.1] at e; cases e
    · cases e
      refine ⟨fun e => ?_, fun e => h.found.ne hg e.symm, (Array.getElem?_eq_some_iff.1 hg).1⟩
      have h6 := h.obj
      rw [← e] at h6
      have h8 := hg.symm.trans h6
      exact absurd (Obj.cells.inj (Option.some.inj h8)).2.1 (by decide)
  have wf : wb ≠ fb := (h.found.ne h.obj).symm
  have vw : ∀ b, v'.ownBlock = some b → b ≠ wb := fun b e => by
    rcases hb with e2 | ⟨g, e2, hg⟩
    · exact (rvw b (e2 ▸ e)).1
    · rw [e2] at e; cases e; omega
  have old : ∀ k, k < w.heap.size → k ≠ fb → rv.ownBlock ≠ some k → Z'.heap[k]? = w.heap[k]? := fun k hk e1 e2 =>
    (gZ.block k (by omega) (fun e => e2 e.symm)).trans ((hZ.block k (by omega)).trans (gY.block k hk (fun e => e1 (Option.some.inj e))))
  have ot : ∀ k, k ≠ wb → (Z'.setCell ⟨wb, 2, none⟩ v').heap[k]? = Z'.heap[k]? := fun k hk => heap_setCell_other _ _ _ _ hk
  have sz : (Z'.setCell ⟨wb, 2, none⟩ v').heap.size = Z'.heap.size := by simp
  have fr : Fr O w (Z'.setCell ⟨wb, 2, none⟩ v') := ⟨gZ.os.trans (hZ.os.trans gY.os), gZ.tape.trans (hZ.tape.trans gY.tape), gZ.output.trans (hZ.output.trans gY.output), by rw [sz]; omega, fun k hk hn =>
    (ot k (fun e => hn (e ▸ h.ownW))).trans (old k hk (fun e => hn (e ▸ h.ownF)) (fun e => hn (h.ownR k e)))⟩
  have hobj : Z'.heap[wb]? = some (.cells #[fnv fid cb, .map (some fb), rv] 90 (0, 0)) := (old wb hwl wf (fun e => (rvw wb e).1 rfl)).trans h.obj
  refine ⟨⟨h.nxt.kept fr.size (fun k hk => fr.block k (h.nxt.size k hk) (h.dis k hk)), ?_, ?_, own_kept hv (fun b e => ot b (vw b e)), ?_, ?_, ?_, .inl h.ownW, .inl h.ownF, fun b e => .inr e, ?_, ?_⟩, fr, ?_⟩
  · rw [Lib.heap_setCell_same hobj]; rfl
  · have e1 : (Z'.setCell ⟨wb, 2, none⟩ v').heap[fb]? = Y.heap[fb]? := (ot fb (fun e => wf e.symm)).trans ((gZ.block fb (by omega) (fun e => (rvw fb e.symm).2.1 rfl)).trans (hZ.block fb (by omega)))
    refine (hm.kept e1).congr fun k _ => ?_
    unfold Mv.upd sf
    by_cases e : k = y <;> simp [e]
  · intro z hz
    simp only [Bool.or_eq_true, decide_eq_true_eq] at hz
    rcases hz with rfl | hz
    · exact hy
    · exact h.fin z hz
  · intro z hz
    rw [List.mem_append, List.mem_singleton] at hz
    rcases hz with hz | rfl
    · exact h.rin z hz
    · exact hy
  · have := h.len; simp; omega
  · rintro k hk (e | e)
    · exact h.dis k hk e
    · rcases hb with e2 | ⟨g, e2, hg⟩
      · exact h.dis k hk (h.ownR k (e2 ▸ e))
      · rw [e2] at e; cases e; have := h.nxt.size _ hk; omega
  · rintro k (e | e)
    · rw [sz]; have := h.size k e; omega
    · rw [sz]; exact (hv.lt k e).2
  · rintro k (e | e)
    · exact .inl e
    · rcases hb with e2 | ⟨g, e2, hg⟩
      · exact .inl (h.ownR k (e2 ▸ e))
      · rw [e2] at e; cases e; exact .inr (by omega)
set_option maxHeartbeats 4000000 in
theorem step_up (h : Wk T O w wb fb rv ns R 40 cb nx F n rest) {s : Id} (hw : WI R s (fun x => F x = true) rest) (hne : rest ≠ []) (hN : ns.length ≤ 900000) : Calls Try.prog 37 #[.pointer (some ⟨wb, 0, none⟩)] w fun e w' => e = .returned (.tuple #[]) ∧ Stepped T O w w' wb fb ns R 40 cb nx s (ns.length - n + rest.length) := by
  obtain ⟨i, x, hi⟩ := last_of hne
  subst hi
  obtain ⟨g, c, cur, rfl, hic, cx1, cx2, hx, hOg, hgw, hgf, hgc, hrow⟩ := h.top rfl
  have hcm : c ≤ maxLen := by
    rcases h.row.2 with h1 | ⟨g', cap, cur', e, _, _, _, h4, _⟩
    · exact absurd h1.1 (by simp)
    · have e2 := (Value.slice.inj e).2.2; rw [e2]; exact h4
  obtain ⟨M, hM⟩ : ∃ M, M = i.length + 1 := ⟨_, rfl⟩
  obtain ⟨hw1, hw2, hlt, hMx⟩ := big hM (by omega) hcm
  have cc := h.cells
  have fz : w.frozen? ⟨wb, 2, none⟩ = false := by simp [World.frozen?, h.obj]
  have hwl := h.size wb h.ownW
  unfold fnv at cc
  rw [← hM] at cc
  have HH := Lib.hid (And.intro h (And.intro hw (And.intro hN (And.intro hx (And.intro hOg (And.intro hgw (And.intro hgf (And.intro hgc (And.intro hrow hM)))))))))
  have hmc : i.length ≤ c := by omega
  clear h hw hne hN hx hOg hgw hgf hgc hrow hM hic hcm
  obtain ⟨m, hm⟩ : ∃ m, m = i.length := ⟨_, rfl⟩
  rw [← hm] at cx1 cx2 hw1 hw2 hlt hmc
  have HM := Lib.hid hm
  clear hm
  have hmix : Try.prog.follows .mixedOrders = true := by kernel_rfl
  unfold kv at cx1
  go_enter Try.func37, Try.ntmps37
  go_wp2_with fail
  obtain ⟨k1, f1, ci⟩ := HH.out.1.pop HH.out.2.2.2.2.2.1 HH.out.2.2.2.2.2.2.2.2.1
  unfold kv at k1 f1 ci
  rw [← HM.out] at k1 f1 ci
  obtain ⟨V, hV⟩ : ∃ V, V = (w.setCell ⟨wb, 2, none⟩ (.slice (some ⟨g, 0, none⟩) m c)).alloc (.cells #[.int .i64 x.1, .bool x.2] 44) := ⟨_, rfl⟩
  rw [← hV] at k1 f1 ci ⊢
  clear hV fz cc cx1 cx2 hwl
  have cc := k1.cells
  unfold fnv at cc
  have hcall : ∀ X, Below V.heap.size V X → Calls Try.prog 40 #[ek x, .pointer (some ⟨cb, 0, none⟩)] X fun e w' => e = .returned (.map (some (nx x))) ∧ Below X.heap.size X w' := fun X hX => k1.nxt.call X hX.size (fun k hk => hX.block k (k1.nxt.size k hk)) x HH.out.2.2.2.1
  obtain ⟨n0, hset⟩ := k1.nxt.set x HH.out.2.2.2.1
  have hj0 := WI.step HH.out.2.1
  have hT := k1.nxt.own x HH.out.2.2.2.1
  have H1 := Lib.hid (And.intro k1 (And.intro f1 (And.intro hj0 hT)))
  clear k1 f1 hj0 hT
  unfold ek kv at hcall
  refine begin' 6 (fun Z => Below V.heap.size V Z) hmix ((Below.refl _ V).drew) (fun hS0 => ?_)
  refine Ht.takeD 8 (i := 0) ⟨some 27, _, _, _, _, _⟩ (.pointer (some ⟨wb, 0, none⟩)) rfl (by kernel_rfl) (by kernel_rfl) (by decide) (by kernel_rfl) (by kernel_rfl) (by kernel_rfl) hS0 (Or.inl ⟨by rfl, by (intro X hX; go_simp)⟩) ?_
  simp only [Act.put, List.setIfInBounds_toArray, List.set_cons_zero, List.set_cons_succ]
  refine Ht.takeD 8 (i := 1) ⟨some 28, _, _, _, _, _⟩ (.pointer (some ⟨wb, 0, none⟩)) rfl (by kernel_rfl) (by kernel_rfl) (by decide) (by kernel_rfl) (by kernel_rfl) (by kernel_rfl) hS0 (Or.inl ⟨by rfl, by (intro X hX; go_simp)⟩) ?_
  simp only [Act.put, List.setIfInBounds_toArray, List.set_cons_zero, List.set_cons_succ]
  refine Ht.takeD 8 (i := 2) ⟨some 29, _, _, _, _, _⟩ (.pointer (some ⟨wb, 0, none⟩)) rfl (by kernel_rfl) (by kernel_rfl) (by decide) (by kernel_rfl) (by kernel_rfl) (by kernel_rfl) hS0 (Or.inl ⟨by rfl, by (intro X hX; go_simp)⟩) ?_
  simp only [Act.put, List.setIfInBounds_toArray, List.set_cons_zero, List.set_cons_succ]
  refine Ht.takeD 8 (i := 3) ⟨some 30, _, _, _, _, _⟩ (.func (.func 40) #[] #[.pointer (some ⟨cb, 0, none⟩)]) rfl (by kernel_rfl) (by kernel_rfl) (by decide) (by kernel_rfl) (by kernel_rfl) (by kernel_rfl) hS0 (Or.inl ⟨by rfl, by (intro X hX; have := bc hX cc.1; go_simp)⟩) ?_
  simp only [Act.put, List.setIfInBounds_toArray, List.set_cons_zero, List.set_cons_succ]
  refine Ht.takeD 8 (i := 4) ⟨some 31, _, _, _, _, _⟩ (.agg #[.int .i64 x.1, .bool x.2]) rfl (by kernel_rfl) (by kernel_rfl) (by decide) (by kernel_rfl) (by kernel_rfl) (by kernel_rfl) hS0 (Or.inl ⟨by rfl, by (intro X hX; have := And.intro (bc hX ci.1) (bc hX ci.2); go_simp)⟩) ?_
  simp only [Act.put, List.setIfInBounds_toArray, List.set_cons_zero, List.set_cons_succ]
  refine Ht.step (i := 5) ⟨some 32, _, _, _, _, _⟩ rfl (by kernel_rfl) (by rfl) (fun K hK => ?_)
  refine Ht.enter 40 #[.agg #[.int .i64 x.1, .bool x.2], .pointer (some ⟨cb, 0, none⟩)] (by have hen := fun args w => enters_of (P := Try.prog) Try.func40 (by kernel_rfl) rfl args w; go_simp) (hcall _ hS0) ?_
  rintro e X1 ⟨rfl, hx1⟩
  have b1 : Below V.heap.size V X1 := hS0.trans (hx1.mono hS0.size)
  obtain ⟨W0, cnt0, hrun, hrg, hgr, hsz⟩ := (hset.kept (b1.block _ hset.lt)).range kindS
  have hw0 : Wj T O w wb fb ns R 40 cb nx s x (ns.length - n + (i ++ [x]).length) X1.heap.size W0 [] cnt0 O (.slice (some ⟨g, 0, none⟩) m c) F n i := by
    have k1 := (H1.out.1.below b1 (Nat.le_refl _)).below ((Below.refl _ X1).grown hgr (Nat.le_refl _) (fun j hj => by cases hj)) (Nat.le_refl _)
    have sw : w.heap.size ≤ X1.heap.size := Nat.le_trans H1.out.2.1.size b1.size
    exact ⟨k1, H1.out.2.2.1, hrg, (H1.out.2.1.trans (Fr.of_below (S := fun _ => False) b1) (fun _ e => e.elim)).trans (Fr.grownN (S := fun _ => False) hgr (fun _ e => by cases e)) (fun _ e => e.elim), fun k hk => .inl hk, ⟨fun e => by have := HH.out.1.size _ e; omega, sw⟩, H1.out.2.2.2, by simp⟩
  refine ⟨_, rfl, hK _ _ (fun hn => b1) (fun hnx => ?_)⟩
  clear hK K hnx
  try simp only [Act.put, List.setIfInBounds_toArray, List.set_cons_zero, List.set_cons_succ]
  refine Ht.step (i := 6) ⟨some 33, _, _, _, _, _⟩ rfl (by kernel_rfl) (by rfl) (fun K hK => ?_)
  go_simp
  refine hK _ _ (fun hn => absurd rfl hn) (fun hnx => ?_)
  clear hK K hnx
  try simp only [Act.put, List.setIfInBounds_toArray, List.set_cons_zero, List.set_cons_succ]
  refine done (by kernel_rfl) ?_
  obtain ⟨r, hr⟩ : ∃ r, r = X1.heap.size := ⟨_, rfl⟩
  rw [← hr] at hw0 ⊢
  have HW0 := Lib.hid hw0
  clear hw0 hrun hrg hgr hsz b1 hx1 hr hset hcall cc ci hS0 H1
  go_wp2_with fail
  try go_frame
  go_loopw [4] (fun _ wr => ∃ es cnt O' rv' F' n' rest', Wj T O w wb fb ns R 40 cb nx s x (ns.length - n + (i ++ [x]).length) r wr es cnt O' rv' F' n' rest') (fun _ wr => wr.rangeLeft (nx x) r)
  case atStart => exact ⟨_, _, _, _, _, _, _, HW0.out⟩
  case round =>
    obtain ⟨es, cnt, O', rv', F', n', rest', p⟩ := hrel
    have HP := Lib.hid p
    have hrg := p.rg
    have HL := Lib.hid p.rg.left_eq
    clear p
    go_wp2_with (first
      | (at_next; refine Mv.wpList_nextQ kindS _ rfl _ rfl (nx x) r _ es cnt rfl hrg ?_ ?_)
      | go_in)
    · intro hdone
      have HD := Lib.hid hdone
      clear hdone hrg
      go_wp2_with fail
      go_end0
      have p := HP.out
      refine ⟨by simp, _, _, _, _, _, p.mem, p.wj.done fun y hy => HD.out y ?_ (by rw [sf_some]; exact hy), p.fr, p.new, p.ms⟩
      exact p.mem.nxt.ok y (p.mem.nxt.edge _ _ hy)
    · rintro ⟨y, v, w1, cnt1, hwy, hfy, hny, hrg1, hlt1, hg1, hs1⟩ hen
      dsimp only at hen ⊢
      have hRy : R x y = true := by
        have h1 := hfy
        unfold sf at h1
        by_cases e : R x y = true
        · exact e
        · rw [if_neg e] at h1; cases h1
      have p := HP.out
      have hrO : ∀ k, T k ∨ O' k → k ≠ r := fun k hk e => by
        rcases hk with hk | hk
        · have h1 := HH.out.1.nxt.size k hk; have h2 := p.nr.2; omega
        · exact p.nr.1 (e ▸ hk)
      have m1 := p.mem.fr (Fr.grown (S := fun k => k = r) hg1 (.inl rfl)) hrO
      have hyn : y ∈ ns := m1.nxt.edge _ _ hRy
      have bA := below_new w1 (.cells #[kv y.1, .bool y.2] 44)
      have cA := cell_id w1 y
      have m2 := m1.below bA (Nat.le_refl _)
      have rg2 := hrg1.kept (Y := w1.alloc (.cells #[kv y.1, .bool y.2] 44)) (bA.block _ (m1.nxt.size _ p.tx)) (bA.block _ hrg1.lt)
      have f2 : Fr O w (w1.alloc (.cells #[kv y.1, .bool y.2] 44)) := (p.fr.trans (Fr.grown (S := fun k => k = r) hg1 (.inl rfl)) (fun k e => by have := p.nr.2; exact .inr (by omega))).trans (Fr.of_below (S := fun _ => False) bA) (fun _ e => e.elim)
      have HY := Lib.hid (And.intro m2 (And.intro rg2 (And.intro f2 (And.intro hRy (And.intro hyn (And.intro hlt1 (And.intro hrO hwy)))))))
      have hwr := whas_any m2 y hwy
      have HWs := Lib.hid hg1.size
      clear m1 m2 rg2 f2 hRy hyn hrg1 hlt1 hg1 hs1 hfy hny hwy hrg p hrO bA
      unfold ek kv at hen
      unfold ek kv
      unfold kv at cA
      go_wp2_with fail
      refine hwr.mono ?_
      rintro e W3 ⟨rfl, hb3⟩
      obtain ⟨J, hJ⟩ : ∃ J, J = w1.heap.size := ⟨_, rfl⟩
      have HJO : ∀ j, j = J → ¬ (T j ∨ O' j) := fun j e h => by
        rw [e, hJ] at h
        have h1 := HP.out.mem.lt h
        have h2 := HY.out.2.2.1.size
        have h3 : wr.heap.size ≤ w1.heap.size := HWs.out
        omega
      have bX : Below (w1.alloc (.cells #[kv y.1, .bool y.2] 44)).heap.size (w1.alloc (.cells #[kv y.1, .bool y.2] 44)) W3 := hb3
      have m3 := HY.out.1.below hb3 (Nat.le_refl _)
      have rg3 := HY.out.2.1.kept (Y := W3) (hb3.block _ (HY.out.1.nxt.size _ HP.out.tx)) (hb3.block _ HY.out.2.1.lt)
      have f3 : Fr O w W3 := HY.out.2.2.1.trans (Fr.of_below (S := fun _ => False) hb3) (fun _ e => e.elim)
      have c3 : W3.cell? ⟨w1.heap.size, 0, none⟩ = some (.int .i64 y.1) ∧ W3.cell? ⟨w1.heap.size, 1, none⟩ = some (.bool y.2) := ⟨bc hb3 cA.1, bc hb3 cA.2⟩
      have HZ := Lib.hid (And.intro m3 (And.intro rg3 f3))
      clear hb3 bX cA hwr hen
      rw [← hJ] at c3 ⊢
      clear hJ
      by_cases hF : F' y = true
      · have HF := Lib.hid hF
        rw [hF]
        clear hF m3 rg3 f3 c3
        go_wp2_with fail
        go_roundw
        case rel =>
          have p := HP.out
          exact ⟨_, _, _, _, _, _, _, HZ.out.1, p.wj.old HF.out, HZ.out.2.1, HZ.out.2.2, p.new, p.nr, p.tx, p.ms⟩
        case measure => rw [HZ.out.2.1.left_eq, HL.out]; exact HY.out.2.2.2.2.2.1
      · have hFf : F' y = false := by simpa using hF
        rw [hFf]
        have hn' : n' < maxLen := by have := m3.n_le; have := HH.out.2.2.1; unfold maxLen; omega
        obtain ⟨Y, hrY, hmY, gY, sY⟩ := Mv.Mp.put kindS (w := W3.drew) (m3.found.kept rfl) hn' HY.out.2.2.2.2.2.2.2 unit
        rw [sf_some, hFf] at hmY
        have gY' : W3.grownBy Y (some fb) := ⟨gY.os, gY.tape, gY.output, gY.size, gY.block⟩
        have cw := m3.cells
        obtain ⟨a', c', rfl⟩ := own_shape m3.row
        have yw : ∀ k, k < W3.heap.size → k ≠ fb → Y.heap[k]? = W3.heap[k]? := fun k hk e => gY'.block k hk (fun e2 => e (Option.some.inj e2))
        have hwbl := m3.size wb m3.ownW
        have cY2 : Y.cell? ⟨wb, 2, none⟩ = some (.slice a' rest'.length c') := by
          have e1 := yw wb hwbl (m3.found.ne m3.obj).symm
          have h2 := cw.2.2
          unfold World.cell? at h2 ⊢
          rw [e1]; exact h2
        have hJl := World.block_lt_of_cell? _ _ c3.1
        have hJf : J ≠ fb := fun e => by
          obtain ⟨es2, cl2, h2⟩ := m3.found.obj
          have h3 := c3.1
          unfold World.cell? at h3
          rw [e, h2] at h3
          simp at h3
        have cYJ : Y.cell? ⟨J, 0, none⟩ = some (.int .i64 y.1) ∧ Y.cell? ⟨J, 1, none⟩ = some (.bool y.2) := by
          have e1 := yw J hJl hJf
          have h1 := c3.1
          have h2 := c3.2
          unfold World.cell? at h1 h2 ⊢
          rw [e1]; exact ⟨h1, h2⟩
        have hNw : ¬ (Value.slice a' rest'.length c').ownBlock = some wb := fun e => by
          obtain ⟨h0, h1 | ⟨g2, cap2, cur2, h2, _, hg2, _⟩⟩ := m3.row
          · rw [h1.1] at e; cases e
          · rw [h2] at e
            cases e
            have h8 := hg2.symm.trans m3.obj
            exact absurd (Obj.cells.inj (Option.some.inj h8)).2.1 (by decide)
        have hNJ : ¬ (Value.slice a' rest'.length c').ownBlock = some J := fun e => HJO J rfl (.inr (m3.ownR J e))
        have HF := Lib.hid (And.intro hFf (And.intro hmY (And.intro gY' (And.intro sY (And.intro hwbl (m3.row))))))
        have cw1 := cw.2.1
        clear hF hFf hmY gY gY' sY yw hJl hJf hn' m3 rg3 f3 cw hwbl
        obtain ⟨L', hL'⟩ : ∃ L, L = rest'.length := ⟨_, rfl⟩
        rw [← hL'] at cY2 hNw hNJ
        unfold ek kv unit at hrY
        have HLL := Lib.hid hL'
        clear hL'
        go_wp2_with fail
  
        refine begin' 6 (fun Z => Below W3.heap.size W3 Z) hmix ((Below.refl _ W3).drew) (fun hS0 => ?_)
        refine Ht.takeD 8 (i := 0) ⟨some 42, _, _, _, _, _⟩ (.pointer (some ⟨wb, 0, none⟩)) rfl (by kernel_rfl) (by kernel_rfl) (by decide) (by kernel_rfl) (by kernel_rfl) (by kernel_rfl) hS0 (Or.inl ⟨by rfl, by (intro X hX; go_simp)⟩) ?_
        simp only [Act.put, List.setIfInBounds_toArray, List.set_cons_zero, List.set_cons_succ]
        refine Ht.takeD 8 (i := 1) ⟨some 43, _, _, _, _, _⟩ (.pointer (some ⟨wb, 0, none⟩)) rfl (by kernel_rfl) (by kernel_rfl) (by decide) (by kernel_rfl) (by kernel_rfl) (by kernel_rfl) hS0 (Or.inl ⟨by rfl, by (intro X hX; go_simp)⟩) ?_
        simp only [Act.put, List.setIfInBounds_toArray, List.set_cons_zero, List.set_cons_succ]
        refine Ht.takeD 8 (i := 2) ⟨some 44, _, _, _, _, _⟩ (.pointer (some ⟨wb, 1, none⟩)) rfl (by kernel_rfl) (by kernel_rfl) (by decide) (by kernel_rfl) (by kernel_rfl) (by kernel_rfl) hS0 (Or.inl ⟨by rfl, by (intro X hX; go_simp)⟩) ?_
        simp only [Act.put, List.setIfInBounds_toArray, List.set_cons_zero, List.set_cons_succ]
        refine Ht.takeD 8 (i := 3) ⟨some 45, _, _, _, _, _⟩ (.map (some fb)) rfl (by kernel_rfl) (by kernel_rfl) (by decide) (by kernel_rfl) (by kernel_rfl) (by kernel_rfl) hS0 (Or.inl ⟨by rfl, by (intro X hX; have := bc hX cw1; go_simp)⟩) ?_
        simp only [Act.put, List.setIfInBounds_toArray, List.set_cons_zero, List.set_cons_succ]
        refine Ht.takeD 8 (i := 4) ⟨some 46, _, _, _, _, _⟩ (.agg #[.int .i64 y.1, .bool y.2]) rfl (by kernel_rfl) (by kernel_rfl) (by decide) (by kernel_rfl) (by kernel_rfl) (by kernel_rfl) hS0 (Or.inl ⟨by rfl, by (intro X hX; have := And.intro (bc hX c3.1) (bc hX c3.2); go_simp)⟩) ?_
        simp only [Act.put, List.setIfInBounds_toArray, List.set_cons_zero, List.set_cons_succ]
        refine Ht.takeD 8 (i := 5) ⟨some 47, _, _, _, _, _⟩ (.agg #[]) rfl (by kernel_rfl) (by kernel_rfl) (by decide) (by kernel_rfl) (by kernel_rfl) (by kernel_rfl) hS0 (Or.inl ⟨by rfl, by (intro X hX; go_simp)⟩) ?_
        simp only [Act.put, List.setIfInBounds_toArray, List.set_cons_zero, List.set_cons_succ]
        refine Ht.step (i := 6) ⟨none, _, _, _, _, _⟩ rfl (by kernel_rfl) (by rfl) (fun K hK => ?_)
        go_simp
        refine hK _ _ (fun hn => absurd rfl hn) (fun hnx => ?_)
        clear hK K hnx
        try simp only [Act.put, List.setIfInBounds_toArray, List.set_cons_zero, List.set_cons_succ]
        refine done (by kernel_rfl) ?_
        clear hS0 hrY
        go_wp2_with fail
        have m3 := HZ.out.1
        clear c3 cw1
        refine begin' 10 (fun Z => Fr (fun k => (Value.slice a' L' c').ownBlock = some k) Y Z) hmix (Fr.refl _ Y).drew (fun hS0 => ?_)
        refine Ht.takeD 8 (i := 0) ⟨some 48, _, _, _, _, _⟩ (.pointer (some ⟨wb, 0, none⟩)) rfl (by kernel_rfl) (by kernel_rfl) (by decide) (by kernel_rfl) (by kernel_rfl) (by kernel_rfl) hS0 (Or.inl ⟨by rfl, by (intro X hX; go_simp)⟩) ?_
        simp only [Act.put, List.setIfInBounds_toArray, List.set_cons_zero, List.set_cons_succ]
        refine Ht.takeD 8 (i := 1) ⟨some 49, _, _, _, _, _⟩ (.pointer (some ⟨wb, 0, none⟩)) rfl (by kernel_rfl) (by kernel_rfl) (by decide) (by kernel_rfl) (by kernel_rfl) (by kernel_rfl) hS0 (Or.inl ⟨by rfl, by (intro X hX; go_simp)⟩) ?_
        simp only [Act.put, List.setIfInBounds_toArray, List.set_cons_zero, List.set_cons_succ]
        refine Ht.takeD 8 (i := 2) ⟨some 50, _, _, _, _, _⟩ (.pointer (some ⟨wb, 0, none⟩)) rfl (by kernel_rfl) (by kernel_rfl) (by decide) (by kernel_rfl) (by kernel_rfl) (by kernel_rfl) hS0 (Or.inl ⟨by rfl, by (intro X hX; go_simp)⟩) ?_
        simp only [Act.put, List.setIfInBounds_toArray, List.set_cons_zero, List.set_cons_succ]
        refine Ht.takeD 8 (i := 3) ⟨some 51, _, _, _, _, _⟩ (.pointer (some ⟨wb, 2, none⟩)) rfl (by kernel_rfl) (by kernel_rfl) (by decide) (by kernel_rfl) (by kernel_rfl) (by kernel_rfl) hS0 (Or.inl ⟨by rfl, by (intro X hX; go_simp)⟩) ?_
        simp only [Act.put, List.setIfInBounds_toArray, List.set_cons_zero, List.set_cons_succ]
        refine Ht.takeD 8 (i := 4) ⟨some 52, _, _, _, _, _⟩ (.slice a' L' c') rfl (by kernel_rfl) (by kernel_rfl) (by decide) (by kernel_rfl) (by kernel_rfl) (by kernel_rfl) hS0 (Or.inl ⟨by rfl, by (intro X hX; have := hX.cell cY2 hNw; go_simp)⟩) ?_
        simp only [Act.put, List.setIfInBounds_toArray, List.set_cons_zero, List.set_cons_succ]
        refine Ht.takeD 8 (i := 5) ⟨some 53, _, _, _, _, _⟩ (.agg #[.int .i64 y.1, .bool y.2]) rfl (by kernel_rfl) (by kernel_rfl) (by decide) (by kernel_rfl) (by kernel_rfl) (by kernel_rfl) hS0 (Or.inl ⟨by rfl, by (intro X hX; have := And.intro (hX.cell cYJ.1 hNJ) (hX.cell cYJ.2 hNJ); go_simp)⟩) ?_
        simp only [Act.put, List.setIfInBounds_toArray, List.set_cons_zero, List.set_cons_succ]
        obtain ⟨hFf, hmY, gY', sY, hwbl, hrow3⟩ := HF.out
        rw [if_neg (by simp)] at hmY
        have bU : Below Y.heap.size Y (Y.drew.alloc (.cells #[.int .i64 y.1, .bool y.2] 44)) := (Below.refl _ Y).drew.alloc (Nat.le_refl _) _
        have cU := cell_id Y.drew y
        unfold kv at cU
        obtain ⟨U, hU⟩ : ∃ U, U = (Y.drew.alloc (.cells #[.int .i64 y.1, .bool y.2] 44)) := ⟨_, rfl⟩
        rw [← hU] at bU cU
        have hv0 : U.ownsRow 0 44 2 (.slice a' L' c') rest'.length (rc rest') := by
          rw [HLL.out]
          refine own_kept hrow3 fun b hb => ?_
          have hO : O' b := m3.ownR b (by rw [HLL.out] at hNw; exact hb)
          have hbl := m3.size b hO
          have hbf : b ≠ fb := fun e => by
            obtain ⟨h0, h1 | ⟨g2, cap2, cur2, h2, _, hg2, _⟩⟩ := hrow3
            · rw [h1.1] at hb; cases hb
            · rw [h2] at hb
              cases hb
              exact m3.found.ne hg2 e.symm
          exact (bU.block b (Nat.lt_of_lt_of_le hbl gY'.size)).trans (gY'.block b hbl (fun e => hbf (Option.some.inj e)))
        have hlen : rest'.length ≤ 1000000 := by have := m3.len; have := m3.n_le; have := HH.out.2.2.1; omega
        obtain ⟨v9, w9, hra, hv9, gZ, hb9⟩ := push_id y hv0 hlen ⟨Y.heap.size, 0, none⟩ cU 88
        obtain ⟨k2, fr2, nw2⟩ := m3.push HY.out.2.2.2.2.1 hFf gY' hmY bU hv9 (by rw [← HLL.out]; exact gZ) (by rw [← HLL.out]; exact hb9)
        have f9 : Fr (fun k => (Value.slice a' L' c').ownBlock = some k) Y w9 := (Fr.of_below bU).trans (Fr.grownN (S := fun k => (Value.slice a' L' c').ownBlock = some k) gZ (fun b e => .inl e)) (fun x e => .inl e)
        have hoY : Y.heap[wb]? = some (.cells #[fnv 40 cb, .map (some fb), .slice a' L' c'] 90 (0, 0)) := by
          have h1 := (gY'.block wb hwbl (fun e => m3.found.ne m3.obj (Option.some.inj e).symm)).trans m3.obj
          rw [HLL.out]; exact h1
        have ho9 : w9.heap[wb]? = some (.cells #[fnv 40 cb, .map (some fb), .slice a' L' c'] 90 (0, 0)) := (f9.block wb (Nat.lt_of_lt_of_le hwbl gY'.size) hNw).trans hoY
        have c9 : w9.cell? ⟨wb, 2, none⟩ = some (.slice a' L' c') := by rw [cell_of_row w9 wb 2 _ _ _ ho9]; rfl
        have z9 : w9.frozen? ⟨wb, 2, none⟩ = false := by simp [World.frozen?, ho9]
        obtain ⟨a9, d9, rfl⟩ := own_shape hv9
        obtain ⟨L9, hL9⟩ : ∃ L, L = (rest' ++ [y]).length := ⟨_, rfl⟩
        rw [← hL9] at hra k2 fr2 nw2
        have p := HP.out
        have rgl := HZ.out.2.1.lt
        have hK := Lib.hid (show Wj T O w wb fb ns R 40 cb nx s x (ns.length - n + (i ++ [x]).length) r (w9.setCell ⟨wb, 2, none⟩ (.slice a9 L9 d9)) (es ++ [y]) cnt1 _ _ _ _ _ from
          ⟨k2, by
            have e : (fun z => z = y ∨ F' z = true) = (fun z => (decide (z = y) || F' z) = true) := by funext z; simp
            rw [← e]; exact p.wj.new HY.out.2.2.2.1, HZ.out.2.1.kept (fr2.block _ (m3.nxt.size _ p.tx) (m3.dis _ p.tx)) (fr2.block _ rgl p.nr.1), HZ.out.2.2.trans fr2 p.new, fun k hk => (nw2 k hk).elim (p.new k) (fun e => .inr (Nat.le_trans HZ.out.2.2.size e)),
            ⟨fun e => (nw2 r e).elim p.nr.1 (by omega), p.nr.2⟩, p.tx, by
              have h1 := k2.n_le
              have h2 := p.ms
              simp at h2 ⊢
              omega⟩)
        clear hL9 hv9 hb9 cU k2 fr2 nw2 ho9 hoY hv0 hlen hFf hmY gY' sY hwbl hrow3 m3 rgl p
        refine Ht.step (i := 6) ⟨some 54, _, _, _, _, _⟩ rfl (by kernel_rfl) (by rfl) (fun K hK => ?_)
        go_simp
        refine hK _ _ (fun hn => (by rw [hU] at bU; exact Fr.of_below bU)) (fun hnx => ?_)
        clear hK K hnx
        try simp only [Act.put, List.setIfInBounds_toArray, List.set_cons_zero, List.set_cons_succ]
        refine Ht.step (i := 7) ⟨some 55, _, _, _, _, _⟩ rfl (by kernel_rfl) (by rfl) (fun K hK => ?_)
        change Oper.wp _ _ _ (Y.drew.alloc (.cells #[.int .i64 y.1, .bool y.2] 44)) _ _
        rw [← hU]
        clear hU
        refine wp_app _ _ rfl rfl rfl hra ?_
        refine hK _ _ (fun hn => f9) (fun hnx => ?_)
        clear hK K hnx
        try simp only [Act.put, List.setIfInBounds_toArray, List.set_cons_zero, List.set_cons_succ]
        refine Ht.takeD 8 (i := 8) ⟨some 56, _, _, _, _, _⟩ (.pointer (some ⟨wb, 0, none⟩)) rfl (by kernel_rfl) (by kernel_rfl) (by decide) (by kernel_rfl) (by kernel_rfl) (by kernel_rfl) f9 (Or.inl ⟨by rfl, by (intro X hX; go_simp)⟩) ?_
        simp only [Act.put, List.setIfInBounds_toArray, List.set_cons_zero, List.set_cons_succ]
        refine Ht.takeD 8 (i := 9) ⟨some 57, _, _, _, _, _⟩ (.pointer (some ⟨wb, 2, none⟩)) rfl (by kernel_rfl) (by kernel_rfl) (by decide) (by kernel_rfl) (by kernel_rfl) (by kernel_rfl) f9 (Or.inl ⟨by rfl, by (intro X hX; go_simp)⟩) ?_
        simp only [Act.put, List.setIfInBounds_toArray, List.set_cons_zero, List.set_cons_succ]
        refine Ht.step (i := 10) ⟨none, _, _, _, _, _⟩ rfl (by kernel_rfl) (by rfl) (fun K hK => ?_)
        go_simp
        refine hK _ _ (fun hn => absurd rfl hn) (fun hnx => ?_)
        clear hK K hnx
        try simp only [Act.put, List.setIfInBounds_toArray, List.set_cons_zero, List.set_cons_succ]
        refine done (by kernel_rfl) ?_
        clear hS0 hra c9 z9 f9 gZ bU
        go_wp2_with fail
        go_roundw
        case rel => exact ⟨_, _, _, _, _, _, _, hK.out⟩
        case measure => rw [hK.out.rg.left_eq, HL.out]; exact HY.out.2.2.2.2.2.1
set_option maxHeartbeats 4000000 in
theorem step_down (h : Wk T O w wb fb rv ns R 50 cb nx F n rest) {s : Id} (hw : WI R s (fun x => F x = true) rest) (hne : rest ≠ []) (hN : ns.length ≤ 900000) : Calls Try.prog 37 #[.pointer (some ⟨wb, 0, none⟩)] w fun e w' => e = .returned (.tuple #[]) ∧ Stepped T O w w' wb fb ns R 50 cb nx s (ns.length - n + rest.length) := by
  obtain ⟨i, x, hi⟩ := last_of hne
  subst hi
  obtain ⟨g, c, cur, rfl, hic, cx1, cx2, hx, hOg, hgw, hgf, hgc, hrow⟩ := h.top rfl
  have hcm : c ≤ maxLen := by
    rcases h.row.2 with h1 | ⟨g', cap, cur', e, _, _, _, h4, _⟩
    · exact absurd h1.1 (by simp)
    · have e2 := (Value.slice.inj e).2.2; rw [e2]; exact h4
  obtain ⟨M, hM⟩ : ∃ M, M = i.length + 1 := ⟨_, rfl⟩
  obtain ⟨hw1, hw2, hlt, hMx⟩ := big hM (by omega) hcm
  have cc := h.cells
  have fz : w.frozen? ⟨wb, 2, none⟩ = false := by simp [World.frozen?, h.obj]
  have hwl := h.size wb h.ownW
  unfold fnv at cc
  rw [← hM] at cc
  have HH := Lib.hid (And.intro h (And.intro hw (And.intro hN (And.intro hx (And.intro hOg (And.intro hgw (And.intro hgf (And.intro hgc (And.intro hrow hM)))))))))
  have hmc : i.length ≤ c := by omega
  clear h hw hne hN hx hOg hgw hgf hgc hrow hM hic hcm
  obtain ⟨m, hm⟩ : ∃ m, m = i.length := ⟨_, rfl⟩
  rw [← hm] at cx1 cx2 hw1 hw2 hlt hmc
  have HM := Lib.hid hm
  clear hm
  have hmix : Try.prog.follows .mixedOrders = true := by kernel_rfl
  unfold kv at cx1
  go_enter Try.func37, Try.ntmps37
  go_wp2_with fail
  obtain ⟨k1, f1, ci⟩ := HH.out.1.pop HH.out.2.2.2.2.2.1 HH.out.2.2.2.2.2.2.2.2.1
  unfold kv at k1 f1 ci
  rw [← HM.out] at k1 f1 ci
  obtain ⟨V, hV⟩ : ∃ V, V = (w.setCell ⟨wb, 2, none⟩ (.slice (some ⟨g, 0, none⟩) m c)).alloc (.cells #[.int .i64 x.1, .bool x.2] 44) := ⟨_, rfl⟩
  rw [← hV] at k1 f1 ci ⊢
  clear hV fz cc cx1 cx2 hwl
  have cc := k1.cells
  unfold fnv at cc
  have hcall : ∀ X, Below V.heap.size V X → Calls Try.prog 50 #[ek x, .pointer (some ⟨cb, 0, none⟩)] X fun e w' => e = .returned (.map (some (nx x))) ∧ Below X.heap.size X w' := fun X hX => k1.nxt.call X hX.size (fun k hk => hX.block k (k1.nxt.size k hk)) x HH.out.2.2.2.1
  obtain ⟨n0, hset⟩ := k1.nxt.set x HH.out.2.2.2.1
  have hj0 := WI.step HH.out.2.1
  have hT := k1.nxt.own x HH.out.2.2.2.1
  have H1 := Lib.hid (And.intro k1 (And.intro f1 (And.intro hj0 hT)))
  clear k1 f1 hj0 hT
  unfold ek kv at hcall
  refine begin' 6 (fun Z => Below V.heap.size V Z) hmix ((Below.refl _ V).drew) (fun hS0 => ?_)
  refine Ht.takeD 8 (i := 0) ⟨some 27, _, _, _, _, _⟩ (.pointer (some ⟨wb, 0, none⟩)) rfl (by kernel_rfl) (by kernel_rfl) (by decide) (by kernel_rfl) (by kernel_rfl) (by kernel_rfl) hS0 (Or.inl ⟨by rfl, by (intro X hX; go_simp)⟩) ?_
  simp only [Act.put, List.setIfInBounds_toArray, List.set_cons_zero, List.set_cons_succ]
  refine Ht.takeD 8 (i := 1) ⟨some 28, _, _, _, _, _⟩ (.pointer (some ⟨wb, 0, none⟩)) rfl (by kernel_rfl) (by kernel_rfl) (by decide) (by kernel_rfl) (by kernel_rfl) (by kernel_rfl) hS0 (Or.inl ⟨by rfl, by (intro X hX; go_simp)⟩) ?_
  simp only [Act.put, List.setIfInBounds_toArray, List.set_cons_zero, List.set_cons_succ]
  refine Ht.takeD 8 (i := 2) ⟨some 29, _, _, _, _, _⟩ (.pointer (some ⟨wb, 0, none⟩)) rfl (by kernel_rfl) (by kernel_rfl) (by decide) (by kernel_rfl) (by kernel_rfl) (by kernel_rfl) hS0 (Or.inl ⟨by rfl, by (intro X hX; go_simp)⟩) ?_
  simp only [Act.put, List.setIfInBounds_toArray, List.set_cons_zero, List.set_cons_succ]
  refine Ht.takeD 8 (i := 3) ⟨some 30, _, _, _, _, _⟩ (.func (.func 50) #[] #[.pointer (some ⟨cb, 0, none⟩)]) rfl (by kernel_rfl) (by kernel_rfl) (by decide) (by kernel_rfl) (by kernel_rfl) (by kernel_rfl) hS0 (Or.inl ⟨by rfl, by (intro X hX; have := bc hX cc.1; go_simp)⟩) ?_
  simp only [Act.put, List.setIfInBounds_toArray, List.set_cons_zero, List.set_cons_succ]
  refine Ht.takeD 8 (i := 4) ⟨some 31, _, _, _, _, _⟩ (.agg #[.int .i64 x.1, .bool x.2]) rfl (by kernel_rfl) (by kernel_rfl) (by decide) (by kernel_rfl) (by kernel_rfl) (by kernel_rfl) hS0 (Or.inl ⟨by rfl, by (intro X hX; have := And.intro (bc hX ci.1) (bc hX ci.2); go_simp)⟩) ?_
  simp only [Act.put, List.setIfInBounds_toArray, List.set_cons_zero, List.set_cons_succ]
  refine Ht.step (i := 5) ⟨some 32, _, _, _, _, _⟩ rfl (by kernel_rfl) (by rfl) (fun K hK => ?_)
  refine Ht.enter 50 #[.agg #[.int .i64 x.1, .bool x.2], .pointer (some ⟨cb, 0, none⟩)] (by have hen := fun args w => enters_of (P := Try.prog) Try.func50 (by kernel_rfl) rfl args w; go_simp) (hcall _ hS0) ?_
  rintro e X1 ⟨rfl, hx1⟩
  have b1 : Below V.heap.size V X1 := hS0.trans (hx1.mono hS0.size)
  obtain ⟨W0, cnt0, hrun, hrg, hgr, hsz⟩ := (hset.kept (b1.block _ hset.lt)).range kindS
  have hw0 : Wj T O w wb fb ns R 50 cb nx s x (ns.length - n + (i ++ [x]).length) X1.heap.size W0 [] cnt0 O (.slice (some ⟨g, 0, none⟩) m c) F n i := by
    have k1 := (H1.out.1.below b1 (Nat.le_refl _)).below ((Below.refl _ X1).grown hgr (Nat.le_refl _) (fun j hj => by cases hj)) (Nat.le_refl _)
    have sw : w.heap.size ≤ X1.heap.size := Nat.le_trans H1.out.2.1.size b1.size
    exact ⟨k1, H1.out.2.2.1, hrg, (H1.out.2.1.trans (Fr.of_below (S := fun _ => False) b1) (fun _ e => e.elim)).trans (Fr.grownN (S := fun _ => False) hgr (fun _ e => by cases e)) (fun _ e => e.elim), fun k hk => .inl hk, ⟨fun e => by have := HH.out.1.size _ e; omega, sw⟩, H1.out.2.2.2, by simp⟩
  refine ⟨_, rfl, hK _ _ (fun hn => b1) (fun hnx => ?_)⟩
  clear hK K hnx
  try simp only [Act.put, List.setIfInBounds_toArray, List.set_cons_zero, List.set_cons_succ]
  refine Ht.step (i := 6) ⟨some 33, _, _, _, _, _⟩ rfl (by kernel_rfl) (by rfl) (fun K hK => ?_)
  go_simp
  refine hK _ _ (fun hn => absurd rfl hn) (fun hnx => ?_)
  clear hK K hnx
  try simp only [Act.put, List.setIfInBounds_toArray, List.set_cons_zero, List.set_cons_succ]
  refine done (by kernel_rfl) ?_
  obtain ⟨r, hr⟩ : ∃ r, r = X1.heap.size := ⟨_, rfl⟩
  rw [← hr] at hw0 ⊢
  have HW0 := Lib.hid hw0
  clear hw0 hrun hrg hgr hsz b1 hx1 hr hset hcall cc ci hS0 H1
  go_wp2_with fail
  try go_frame
  go_loopw [4] (fun _ wr => ∃ es cnt O' rv' F' n' rest', Wj T O w wb fb ns R 50 cb nx s x (ns.length - n + (i ++ [x]).length) r wr es cnt O' rv' F' n' rest') (fun _ wr => wr.rangeLeft (nx x) r)
  case atStart => exact ⟨_, _, _, _, _, _, _, HW0.out⟩
  case round =>
    obtain ⟨es, cnt, O', rv', F', n', rest', p⟩ := hrel
    have HP := Lib.hid p
    have hrg := p.rg
    have HL := Lib.hid p.rg.left_eq
    clear p
    go_wp2_with (first
      | (at_next; refine Mv.wpList_nextQ kindS _ rfl _ rfl (nx x) r _ es cnt rfl hrg ?_ ?_)
      | go_in)
    · intro hdone
      have HD := Lib.hid hdone
      clear hdone hrg
      go_wp2_with fail
      go_end0
      have p := HP.out
      refine ⟨by simp, _, _, _, _, _, p.mem, p.wj.done fun y hy => HD.out y ?_ (by rw [sf_some]; exact hy), p.fr, p.new, p.ms⟩
      exact p.mem.nxt.ok y (p.mem.nxt.edge _ _ hy)
    · rintro ⟨y, v, w1, cnt1, hwy, hfy, hny, hrg1, hlt1, hg1, hs1⟩ hen
      dsimp only at hen ⊢
      have hRy : R x y = true := by
        have h1 := hfy
        unfold sf at h1
        by_cases e : R x y = true
        · exact e
        · rw [if_neg e] at h1; cases h1
      have p := HP.out
      have hrO : ∀ k, T k ∨ O' k → k ≠ r := fun k hk e => by
        rcases hk with hk | hk
        · have h1 := HH.out.1.nxt.size k hk; have h2 := p.nr.2; omega
        · exact p.nr.1 (e ▸ hk)
      have m1 := p.mem.fr (Fr.grown (S := fun k => k = r) hg1 (.inl rfl)) hrO
      have hyn : y ∈ ns := m1.nxt.edge _ _ hRy
      have bA := below_new w1 (.cells #[kv y.1, .bool y.2] 44)
      have cA := cell_id w1 y
      have m2 := m1.below bA (Nat.le_refl _)
      have rg2 := hrg1.kept (Y := w1.alloc (.cells #[kv y.1, .bool y.2] 44)) (bA.block _ (m1.nxt.size _ p.tx)) (bA.block _ hrg1.lt)
      have f2 : Fr O w (w1.alloc (.cells #[kv y.1, .bool y.2] 44)) := (p.fr.trans (Fr.grown (S := fun k => k = r) hg1 (.inl rfl)) (fun k e => by have := p.nr.2; exact .inr (by omega))).trans (Fr.of_below (S := fun _ => False) bA) (fun _ e => e.elim)
      have HY := Lib.hid (And.intro m2 (And.intro rg2 (And.intro f2 (And.intro hRy (And.intro hyn (And.intro hlt1 (And.intro hrO hwy)))))))
      have hwr := whas_any m2 y hwy
      have HWs := Lib.hid hg1.size
      clear m1 m2 rg2 f2 hRy hyn hrg1 hlt1 hg1 hs1 hfy hny hwy hrg p hrO bA
      unfold ek kv at hen
      unfold ek kv
      unfold kv at cA
      go_wp2_with fail
      refine hwr.mono ?_
      rintro e W3 ⟨rfl, hb3⟩
      obtain ⟨J, hJ⟩ : ∃ J, J = w1.heap.size := ⟨_, rfl⟩
      have HJO : ∀ j, j = J → ¬ (T j ∨ O' j) := fun j e h => by
        rw [e, hJ] at h
        have h1 := HP.out.mem.lt h
        have h2 := HY.out.2.2.1.size
        have h3 : wr.heap.size ≤ w1.heap.size := HWs.out
        omega
      have bX : Below (w1.alloc (.cells #[kv y.1, .bool y.2] 44)).heap.size (w1.alloc (.cells #[kv y.1, .bool y.2] 44)) W3 := hb3
      have m3 := HY.out.1.below hb3 (Nat.le_refl _)
      have rg3 := HY.out.2.1.kept (Y := W3) (hb3.block _ (HY.out.1.nxt.size _ HP.out.tx)) (hb3.block _ HY.out.2.1.lt)
      have f3 : Fr O w W3 := HY.out.2.2.1.trans (Fr.of_below (S := fun _ => False) hb3) (fun _ e => e.elim)
      have c3 : W3.cell? ⟨w1.heap.size, 0, none⟩ = some (.int .i64 y.1) ∧ W3.cell? ⟨w1.heap.size, 1, none⟩ = some (.bool y.2) := ⟨bc hb3 cA.1, bc hb3 cA.2⟩
      have HZ := Lib.hid (And.intro m3 (And.intro rg3 f3))
      clear hb3 bX cA hwr hen
      rw [← hJ] at c3 ⊢
      clear hJ
      by_cases hF : F' y = true
      · have HF := Lib.hid hF
        rw [hF]
        clear hF m3 rg3 f3 c3
        go_wp2_with fail
        go_roundw
        case rel =>
          have p := HP.out
          exact ⟨_, _, _, _, _, _, _, HZ.out.1, p.wj.old HF.out, HZ.out.2.1, HZ.out.2.2, p.new, p.nr, p.tx, p.ms⟩
        case measure => rw [HZ.out.2.1.left_eq, HL.out]; exact HY.out.2.2.2.2.2.1
      · have hFf : F' y = false := by simpa using hF
        rw [hFf]
        have hn' : n' < maxLen := by have := m3.n_le; have := HH.out.2.2.1; unfold maxLen; omega
        obtain ⟨Y, hrY, hmY, gY, sY⟩ := Mv.Mp.put kindS (w := W3.drew) (m3.found.kept rfl) hn' HY.out.2.2.2.2.2.2.2 unit
        rw [sf_some, hFf] at hmY
        have gY' : W3.grownBy Y (some fb) := ⟨gY.os, gY.tape, gY.output, gY.size, gY.block⟩
        have cw := m3.cells
        obtain ⟨a', c', rfl⟩ := own_shape m3.row
        have yw : ∀ k, k < W3.heap.size → k ≠ fb → Y.heap[k]? = W3.heap[k]? := fun k hk e => gY'.block k hk (fun e2 => e (Option.some.inj e2))
        have hwbl := m3.size wb m3.ownW
        have cY2 : Y.cell? ⟨wb, 2, none⟩ = some (.slice a' rest'.length c') := by
          have e1 := yw wb hwbl (m3.found.ne m3.obj).symm
          have h2 := cw.2.2
          unfold World.cell? at h2 ⊢
          rw [e1]; exact h2
        have hJl := World.block_lt_of_cell? _ _ c3.1
        have hJf : J ≠ fb := fun e => by
          obtain ⟨es2, cl2, h2⟩ := m3.found.obj
          have h3 := c3.1
          unfold World.cell? at h3
          rw [e, h2] at h3
          simp at h3
        have cYJ : Y.cell? ⟨J, 0, none⟩ = some (.int .i64 y.1) ∧ Y.cell? ⟨J, 1, none⟩ = some (.bool y.2) := by
          have e1 := yw J hJl hJf
          have h1 := c3.1
          have h2 := c3.2
          unfold World.cell? at h1 h2 ⊢
          rw [e1]; exact ⟨h1, h2⟩
        have hNw : ¬ (Value.slice a' rest'.length c').ownBlock = some wb := fun e => by
          obtain ⟨h0, h1 | ⟨g2, cap2, cur2, h2, _, hg2, _⟩⟩ := m3.row
          · rw [h1.1] at e; cases e
          · rw [h2] at e
            cases e
            have h8 := hg2.symm.trans m3.obj
            exact absurd (Obj.cells.inj (Option.some.inj h8)).2.1 (by decide)
        have hNJ : ¬ (Value.slice a' rest'.length c').ownBlock = some J := fun e => HJO J rfl (.inr (m3.ownR J e))
        have HF := Lib.hid (And.intro hFf (And.intro hmY (And.intro gY' (And.intro sY (And.intro hwbl (m3.row))))))
        have cw1 := cw.2.1
        clear hF hFf hmY gY gY' sY yw hJl hJf hn' m3 rg3 f3 cw hwbl
        obtain ⟨L', hL'⟩ : ∃ L, L = rest'.length := ⟨_, rfl⟩
        rw [← hL'] at cY2 hNw hNJ
        unfold ek kv unit at hrY
        have HLL := Lib.hid hL'
        clear hL'
        go_wp2_with fail
  
        refine begin' 6 (fun Z => Below W3.heap.size W3 Z) hmix ((Below.refl _ W3).drew) (fun hS0 => ?_)
        refine Ht.takeD 8 (i := 0) ⟨some 42, _, _, _, _, _⟩ (.pointer (some ⟨wb, 0, none⟩)) rfl (by kernel_rfl) (by kernel_rfl) (by decide) (by kernel_rfl) (by kernel_rfl) (by kernel_rfl) hS0 (Or.inl ⟨by rfl, by (intro X hX; go_simp)⟩) ?_
        simp only [Act.put, List.setIfInBounds_toArray, List.set_cons_zero, List.set_cons_succ]
        refine Ht.takeD 8 (i := 1) ⟨some 43, _, _, _, _, _⟩ (.pointer (some ⟨wb, 0, none⟩)) rfl (by kernel_rfl) (by kernel_rfl) (by decide) (by kernel_rfl) (by kernel_rfl) (by kernel_rfl) hS0 (Or.inl ⟨by rfl, by (intro X hX; go_simp)⟩) ?_
        simp only [Act.put, List.setIfInBounds_toArray, List.set_cons_zero, List.set_cons_succ]
        refine Ht.takeD 8 (i := 2) ⟨some 44, _, _, _, _, _⟩ (.pointer (some ⟨wb, 1, none⟩)) rfl (by kernel_rfl) (by kernel_rfl) (by decide) (by kernel_rfl) (by kernel_rfl) (by kernel_rfl) hS0 (Or.inl ⟨by rfl, by (intro X hX; go_simp)⟩) ?_
        simp only [Act.put, List.setIfInBounds_toArray, List.set_cons_zero, List.set_cons_succ]
        refine Ht.takeD 8 (i := 3) ⟨some 45, _, _, _, _, _⟩ (.map (some fb)) rfl (by kernel_rfl) (by kernel_rfl) (by decide) (by kernel_rfl) (by kernel_rfl) (by kernel_rfl) hS0 (Or.inl ⟨by rfl, by (intro X hX; have := bc hX cw1; go_simp)⟩) ?_
        simp only [Act.put, List.setIfInBounds_toArray, List.set_cons_zero, List.set_cons_succ]
        refine Ht.takeD 8 (i := 4) ⟨some 46, _, _, _, _, _⟩ (.agg #[.int .i64 y.1, .bool y.2]) rfl (by kernel_rfl) (by kernel_rfl) (by decide) (by kernel_rfl) (by kernel_rfl) (by kernel_rfl) hS0 (Or.inl ⟨by rfl, by (intro X hX; have := And.intro (bc hX c3.1) (bc hX c3.2); go_simp)⟩) ?_
        simp only [Act.put, List.setIfInBounds_toArray, List.set_cons_zero, List.set_cons_succ]
        refine Ht.takeD 8 (i := 5) ⟨some 47, _, _, _, _, _⟩ (.agg #[]) rfl (by kernel_rfl) (by kernel_rfl) (by decide) (by kernel_rfl) (by kernel_rfl) (by kernel_rfl) hS0 (Or.inl ⟨by rfl, by (intro X hX; go_simp)⟩) ?_
        simp only [Act.put, List.setIfInBounds_toArray, List.set_cons_zero, List.set_cons_succ]
        refine Ht.step (i := 6) ⟨none, _, _, _, _, _⟩ rfl (by kernel_rfl) (by rfl) (fun K hK => ?_)
        go_simp
        refine hK _ _ (fun hn => absurd rfl hn) (fun hnx => ?_)
        clear hK K hnx
        try simp only [Act.put, List.setIfInBounds_toArray, List.set_cons_zero, List.set_cons_succ]
        refine done (by kernel_rfl) ?_
        clear hS0 hrY
        go_wp2_with fail
        have m3 := HZ.out.1
        clear c3 cw1
        refine begin' 10 (fun Z => Fr (fun k => (Value.slice a' L' c').ownBlock = some k) Y Z) hmix (Fr.refl _ Y).drew (fun hS0 => ?_)
        refine Ht.takeD 8 (i := 0) ⟨some 48, _, _, _, _, _⟩ (.pointer (some ⟨wb, 0, none⟩)) rfl (by kernel_rfl) (by kernel_rfl) (by decide) (by kernel_rfl) (by kernel_rfl) (by kernel_rfl) hS0 (Or.inl ⟨by rfl, by (intro X hX; go_simp)⟩) ?_
        simp only [Act.put, List.setIfInBounds_toArray, List.set_cons_zero, List.set_cons_succ]
        refine Ht.takeD 8 (i := 1) ⟨some 49, _, _, _, _, _⟩ (.pointer (some ⟨wb, 0, none⟩)) rfl (by kernel_rfl) (by kernel_rfl) (by decide) (by kernel_rfl) (by kernel_rfl) (by kernel_rfl) hS0 (Or.inl ⟨by rfl, by (intro X hX; go_simp)⟩) ?_
        simp only [Act.put, List.setIfInBounds_toArray, List.set_cons_zero, List.set_cons_succ]
        refine Ht.takeD 8 (i := 2) ⟨some 50, _, _, _, _, _⟩ (.pointer (some ⟨wb, 0, none⟩)) rfl (by kernel_rfl) (by kernel_rfl) (by decide) (by kernel_rfl) (by kernel_rfl) (by kernel_rfl) hS0 (Or.inl ⟨by rfl, by (intro X hX; go_simp)⟩) ?_
        simp only [Act.put, List.setIfInBounds_toArray, List.set_cons_zero, List.set_cons_succ]
        refine Ht.takeD 8 (i := 3) ⟨some 51, _, _, _, _, _⟩ (.pointer (some ⟨wb, 2, none⟩)) rfl (by kernel_rfl) (by kernel_rfl) (by decide) (by kernel_rfl) (by kernel_rfl) (by kernel_rfl) hS0 (Or.inl ⟨by rfl, by (intro X hX; go_simp)⟩) ?_
        simp only [Act.put, List.setIfInBounds_toArray, List.set_cons_zero, List.set_cons_succ]
        refine Ht.takeD 8 (i := 4) ⟨some 52, _, _, _, _, _⟩ (.slice a' L' c') rfl (by kernel_rfl) (by kernel_rfl) (by decide) (by kernel_rfl) (by kernel_rfl) (by kernel_rfl) hS0 (Or.inl ⟨by rfl, by (intro X hX; have := hX.cell cY2 hNw; go_simp)⟩) ?_
        simp only [Act.put, List.setIfInBounds_toArray, List.set_cons_zero, List.set_cons_succ]
        refine Ht.takeD 8 (i := 5) ⟨some 53, _, _, _, _, _⟩ (.agg #[.int .i64 y.1, .bool y.2]) rfl (by kernel_rfl) (by kernel_rfl) (by decide) (by kernel_rfl) (by kernel_rfl) (by kernel_rfl) hS0 (Or.inl ⟨by rfl, by (intro X hX; have := And.intro (hX.cell cYJ.1 hNJ) (hX.cell cYJ.2 hNJ); go_simp)⟩) ?_
        simp only [Act.put, List.setIfInBounds_toArray, List.set_cons_zero, List.set_cons_succ]
        obtain ⟨hFf, hmY, gY', sY, hwbl, hrow3⟩ := HF.out
        rw [if_neg (by simp)] at hmY
        have bU : Below Y.heap.size Y (Y.drew.alloc (.cells #[.int .i64 y.1, .bool y.2] 44)) := (Below.refl _ Y).drew.alloc (Nat.le_refl _) _
        have cU := cell_id Y.drew y
        unfold kv at cU
        obtain ⟨U, hU⟩ : ∃ U, U = (Y.drew.alloc (.cells #[.int .i64 y.1, .bool y.2] 44)) := ⟨_, rfl⟩
        rw [← hU] at bU cU
        have hv0 : U.ownsRow 0 44 2 (.slice a' L' c') rest'.length (rc rest') := by
          rw [HLL.out]
          refine own_kept hrow3 fun b hb => ?_
          have hO : O' b := m3.ownR b (by rw [HLL.out] at hNw; exact hb)
          have hbl := m3.size b hO
          have hbf : b ≠ fb := fun e => by
            obtain ⟨h0, h1 | ⟨g2, cap2, cur2, h2, _, hg2, _⟩⟩ := hrow3
            · rw [h1.1] at hb; cases hb
            · rw [h2] at hb
              cases hb
              exact m3.found.ne hg2 e.symm
          exact (bU.block b (Nat.lt_of_lt_of_le hbl gY'.size)).trans (gY'.block b hbl (fun e => hbf (Option.some.inj e)))
        have hlen : rest'.length ≤ 1000000 := by have := m3.len; have := m3.n_le; have := HH.out.2.2.1; omega
        obtain ⟨v9, w9, hra, hv9, gZ, hb9⟩ := push_id y hv0 hlen ⟨Y.heap.size, 0, none⟩ cU 88
        obtain ⟨k2, fr2, nw2⟩ := m3.push HY.out.2.2.2.2.1 hFf gY' hmY bU hv9 (by rw [← HLL.out]; exact gZ) (by rw [← HLL.out]; exact hb9)
        have f9 : Fr (fun k => (Value.slice a' L' c').ownBlock = some k) Y w9 := (Fr.of_below bU).trans (Fr.grownN (S := fun k => (Value.slice a' L' c').ownBlock = some k) gZ (fun b e => .inl e)) (fun x e => .inl e)
        have hoY : Y.heap[wb]? = some (.cells #[fnv 50 cb, .map (some fb), .slice a' L' c'] 90 (0, 0)) := by
          have h1 := (gY'.block wb hwbl (fun e => m3.found.ne m3.obj (Option.some.inj e).symm)).trans m3.obj
          rw [HLL.out]; exact h1
        have ho9 : w9.heap[wb]? = some (.cells #[fnv 50 cb, .map (some fb), .slice a' L' c'] 90 (0, 0)) := (f9.block wb (Nat.lt_of_lt_of_le hwbl gY'.size) hNw).trans hoY
        have c9 : w9.cell? ⟨wb, 2, none⟩ = some (.slice a' L' c') := by rw [cell_of_row w9 wb 2 _ _ _ ho9]; rfl
        have z9 : w9.frozen? ⟨wb, 2, none⟩ = false := by simp [World.frozen?, ho9]
        obtain ⟨a9, d9, rfl⟩ := own_shape hv9
        obtain ⟨L9, hL9⟩ : ∃ L, L = (rest' ++ [y]).length := ⟨_, rfl⟩
        rw [← hL9] at hra k2 fr2 nw2
        have p := HP.out
        have rgl := HZ.out.2.1.lt
        have hK := Lib.hid (show Wj T O w wb fb ns R 50 cb nx s x (ns.length - n + (i ++ [x]).length) r (w9.setCell ⟨wb, 2, none⟩ (.slice a9 L9 d9)) (es ++ [y]) cnt1 _ _ _ _ _ from
          ⟨k2, by
            have e : (fun z => z = y ∨ F' z = true) = (fun z => (decide (z = y) || F' z) = true) := by funext z; simp
            rw [← e]; exact p.wj.new HY.out.2.2.2.1, HZ.out.2.1.kept (fr2.block _ (m3.nxt.size _ p.tx) (m3.dis _ p.tx)) (fr2.block _ rgl p.nr.1), HZ.out.2.2.trans fr2 p.new, fun k hk => (nw2 k hk).elim (p.new k) (fun e => .inr (Nat.le_trans HZ.out.2.2.size e)),
            ⟨fun e => (nw2 r e).elim p.nr.1 (by omega), p.nr.2⟩, p.tx, by
              have h1 := k2.n_le
              have h2 := p.ms
              simp at h2 ⊢
              omega⟩)
        clear hL9 hv9 hb9 cU k2 fr2 nw2 ho9 hoY hv0 hlen hFf hmY gY' sY hwbl hrow3 m3 rgl p
        refine Ht.step (i := 6) ⟨some 54, _, _, _, _, _⟩ rfl (by kernel_rfl) (by rfl) (fun K hK => ?_)
        go_simp
        refine hK _ _ (fun hn => (by rw [hU] at bU; exact Fr.of_below bU)) (fun hnx => ?_)
        clear hK K hnx
        try simp only [Act.put, List.setIfInBounds_toArray, List.set_cons_zero, List.set_cons_succ]
        refine Ht.step (i := 7) ⟨some 55, _, _, _, _, _⟩ rfl (by kernel_rfl) (by rfl) (fun K hK => ?_)
        change Oper.wp _ _ _ (Y.drew.alloc (.cells #[.int .i64 y.1, .bool y.2] 44)) _ _
        rw [← hU]
        clear hU
        refine wp_app _ _ rfl rfl rfl hra ?_
        refine hK _ _ (fun hn => f9) (fun hnx => ?_)
        clear hK K hnx
        try simp only [Act.put, List.setIfInBounds_toArray, List.set_cons_zero, List.set_cons_succ]
        refine Ht.takeD 8 (i := 8) ⟨some 56, _, _, _, _, _⟩ (.pointer (some ⟨wb, 0, none⟩)) rfl (by kernel_rfl) (by kernel_rfl) (by decide) (by kernel_rfl) (by kernel_rfl) (by kernel_rfl) f9 (Or.inl ⟨by rfl, by (intro X hX; go_simp)⟩) ?_
        simp only [Act.put, List.setIfInBounds_toArray, List.set_cons_zero, List.set_cons_succ]
        refine Ht.takeD 8 (i := 9) ⟨some 57, _, _, _, _, _⟩ (.pointer (some ⟨wb, 2, none⟩)) rfl (by kernel_rfl) (by kernel_rfl) (by decide) (by kernel_rfl) (by kernel_rfl) (by kernel_rfl) f9 (Or.inl ⟨by rfl, by (intro X hX; go_simp)⟩) ?_
        simp only [Act.put, List.setIfInBounds_toArray, List.set_cons_zero, List.set_cons_succ]
        refine Ht.step (i := 10) ⟨none, _, _, _, _, _⟩ rfl (by kernel_rfl) (by rfl) (fun K hK => ?_)
        go_simp
        refine hK _ _ (fun hn => absurd rfl hn) (fun hnx => ?_)
        clear hK K hnx
        try simp only [Act.put, List.setIfInBounds_toArray, List.set_cons_zero, List.set_cons_succ]
        refine done (by kernel_rfl) ?_
        clear hS0 hra c9 z9 f9 gZ bU
        go_wp2_with fail
        go_roundw
        case rel => exact ⟨_, _, _, _, _, _, _, hK.out⟩
        case measure => rw [hK.out.rg.left_eq, HL.out]; exact HY.out.2.2.2.2.2.1
theorem step_any (h : Wk T O w wb fb rv ns R fid cb nx F n rest) {s : Id} (hw : WI R s (fun x => F x = true) rest) (hne : rest ≠ []) (hN : ns.length ≤ 900000) : Calls Try.prog 37 #[.pointer (some ⟨wb, 0, none⟩)] w fun e w' => e = .returned (.tuple #[]) ∧ Stepped T O w w' wb fb ns R fid cb nx s (ns.length - n + rest.length) := by
  rcases h.nxt.fn with rfl | rfl
  · exact step_up h hw hne hN
  · exact step_down h hw hne hN
end
end Go.Proofs.Ytmlmacplkfnhkaa.DgA

