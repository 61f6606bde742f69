/- graphs: walks: a step -/
import Derived.Test.YtcodjknhnhdkfaaGreatDoorBr21
import Derived.Test.YtcodjknhnhdkfaaGreatDoorBr17
namespace Go.Proofs.YtcodjknhnhdkfaaGreatDoor.DgB
open Go.RowKit Go.Lib Hp Mv Dg Ht Ao
set_option linter.unusedVariables false
set_option maxRecDepth 20000
attribute [local go_sem] Oper.semAt_some
theorem info_parts {P : Program} {t : TypeId} {z : Option Value} {a b : Nat} (h : (P.info? t).map (fun i => (i.zero, i.size, i.bytes)) = some (z, a, b)) : ∃ i, P.info? t = some i ∧ i.zero = z ∧ i.size = a ∧ i.bytes = b := by
  cases e : P.info? t with
  | none => rw [e] at h; cases h
  | some i => rw [e] at h; simp only [Option.map_some, Option.some.injEq, Prod.mk.injEq] at h; exact ⟨i, rfl, h.1, h.2.1, h.2.2⟩
theorem infoId : (Tryz.prog.info? 115).map (fun i => (i.zero, i.size, i.bytes)) = some (some (.agg #[.string ⟨#[]⟩, .bool false]), 2, 24) := by kernel_rfl
theorem rc_one (l : List Id) : ∀ u ∈ rc l, u.oneCell' = true := by
  induction l with
  | nil => intro u h; simp [rc] at h
  | cons x l ih =>
    intro u h
    simp only [rc, List.mem_cons] at h
    rcases h with rfl | rfl | h
    · rfl
    · rfl
    · exact ih u h
section
variable {T O : Nat → Prop} {w : World} {wb fb : Nat} {rv : Value} {ns : List Id} {R : Id → Id → Bool} {fid : FuncId} {cb : Nat} {nx : Id → Nat} {F : Id → Bool} {n : Nat} {rest : List Id}
/-- one id more in the row -/
theorem push_id {Z : World} {v : Value} {l : List Id} (y : Id) (hown : Z.ownsRow 0 115 2 v l.length (rc l)) (hn : l.length ≤ 1000000) (ad : Addr) (hc : Z.cell? (ad.add 0) = some (kv y.1) ∧ Z.cell? (ad.add 1) = some (.bool y.2)) (ty : TypeId) :
    ∃ v' w', (Builtin.append_ #[182, 182] ty #[v, .slice (some ad) 1 1]).run Tryz.prog Z = .ok v' w' ∧ w'.ownsRow 0 115 2 v' (l ++ [y]).length (rc (l ++ [y])) ∧ Z.grownBy w' v.ownBlock ∧ (v'.ownBlock = v.ownBlock ∨ ∃ g, v'.ownBlock = some g ∧ Z.heap.size ≤ g) := by
  obtain ⟨i0, hi, hz0, hz1, hz2⟩ := info_parts infoId
  obtain ⟨v', w', hr, h1, h2, h3⟩ := run_append_own_new (P := Tryz.prog) Z 0 182 ty 115 i0 (.agg #[.string ⟨#[]⟩, .bool false]) 2 24 Tryz.underlying182 hi hz0 hz1 hz2 rfl (by decide) v l.length (rc l) hown ad 1 1 (rc [y]) rfl
    (fun j u hu => by
      match j, hu with
      | 0, hu => simp [rc] at hu; rw [← hu]; exact hc.1
      | 1, hu => simp [rc] at hu; rw [← hu]; exact hc.2
      | j + 2, hu => simp [rc] at hu) (rc_one _) (by unfold maxLen; omega) (by omega) (Nat.zero_le _)
  refine ⟨v', w', hr, ?_, h2, h3⟩
  rw [rc_app, show (l ++ [y]).length = l.length + 1 by simp]; exact h1
theorem wp_app {o : Oper} {a : Act} {w w' : World} {K : Act → World → Prop} {Q : Exit → Act → World → Prop} {t : TypeId} {v1 v2 v' : Value} (s x : Operand) (ho : o.op = .call { callee := .builtin .append, args := #[s, x], argTypes := #[t, t] }) (h1 : a.eval s = v1) (h2 : a.eval x = v2)
    (hr : (Builtin.append_ #[t, t] o.type #[v1, v2]).run Tryz.prog w = .ok v' w') (h : K (a.put o.dst v') w') : o.wp Tryz.prog a w K Q := by
  unfold Oper.wp execOp
  simp only [ho, resolve, invoke, builtin, Sem.run_bind, Sem.run_pure, Result.andThen_ok, List.map_toArray, List.map_cons, List.map_nil, h1, h2, hr]
  exact h
/-- what a step leaves -/
def Stepped (T O : Nat → Prop) (w w' : World) (wb fb : Nat) (ns : List Id) (R : Id → Id → Bool) (fid : FuncId) (cb : Nat) (nx : Id → Nat) (s : Id) (m : Nat) : Prop :=
  ∃ O' rv' F' n' rest', Wk T O' w' wb fb rv' ns R fid cb nx F' n' rest' ∧ WI R s (fun x => F' x = true) rest' ∧ Fr O w w' ∧ (∀ k, O' k → O k ∨ w.heap.size ≤ k) ∧ ns.length - n' + rest'.length < m
/-- a step under way: of x these are told -/
structure Wj (T O : Nat → Prop) (w : World) (wb fb : Nat) (ns : List Id) (R : Id → Id → Bool) (fid : FuncId) (cb : Nat) (nx : Id → Nat) (s x : Id) (m r : Nat) (X : World) (es : List Id) (cnt : Nat) (O' : Nat → Prop) (rv' : Value) (F' : Id → Bool) (n' : Nat) (rest' : List Id) : Prop where
  mem : Wk T O' X wb fb rv' ns R fid cb nx F' n' rest'
  wj : WJ R s x es (fun x => F' x = true) rest'
  rg : Rgs Tryz.prog 115 ek wk X (nx x) r (sf fun y => R x y) es cnt
  fr : Fr O w X
  new : ∀ k, O' k → O k ∨ w.heap.size ≤ k
  nr : ¬ O' r ∧ w.heap.size ≤ r
  tx : T (nx x)
  ms : ns.length - n' + rest'.length < m
theorem Wj.below {s x : Id} {m r : Nat} {X Y : World} {es : List Id} {cnt : Nat} {O' : Nat → Prop} {rv' : Value} {F' : Id → Bool} {n' : Nat} {rest' : List Id} (h : Wj T O w wb fb ns R fid cb nx s x m r X es cnt O' rv' F' n' rest') (b : Below X.heap.size X Y) : Wj T O w wb fb ns R fid cb nx s x m r Y es cnt O' rv' F' n' rest' :=
  ⟨h.mem.below b (Nat.le_refl _), h.wj, h.rg.kept (b.block _ (h.mem.nxt.size _ h.tx)) (b.block _ h.rg.lt), h.fr.trans (Fr.of_below (S := fun _ => False) b) (fun _ e => e.elim), h.new, h.nr, h.tx, h.ms⟩
/-- the last one is taken out of the row -/
theorem Wk.pop {i : List Id} {x : Id} {g c : Nat} (h : Wk T O w wb fb (.slice (some ⟨g, 0, none⟩) (i.length + 1) c) ns R fid cb nx F n (i ++ [x])) (hgw : g ≠ wb) (hrow : w.ownsRow 0 115 2 (.slice (some ⟨g, 0, none⟩) i.length c) i.length (rc i)) :
    Wk T O ((w.setCell ⟨wb, 2, none⟩ (.slice (some ⟨g, 0, none⟩) i.length c)).alloc (.cells #[kv x.1, .bool x.2] 115)) wb fb (.slice (some ⟨g, 0, none⟩) i.length c) ns R fid cb nx F n i ∧ Fr O w ((w.setCell ⟨wb, 2, none⟩ (.slice (some ⟨g, 0, none⟩) i.length c)).alloc (.cells #[kv x.1, .bool x.2] 115)) ∧
    ((w.setCell ⟨wb, 2, none⟩ (.slice (some ⟨g, 0, none⟩) i.length c)).alloc (.cells #[kv x.1, .bool x.2] 115)).cell? ⟨w.heap.size, 0, none⟩ = some (kv x.1) ∧ ((w.setCell ⟨wb, 2, none⟩ (.slice (some ⟨g, 0, none⟩) i.length c)).alloc (.cells #[kv x.1, .bool x.2] 115)).cell? ⟨w.heap.size, 1, none⟩ = some (.bool x.2) := by
  obtain ⟨U, hU⟩ : ∃ U, U = w.setCell ⟨wb, 2, none⟩ (.slice (some ⟨g, 0, none⟩) i.length c) := ⟨_, rfl⟩
  rw [← hU]
  have sz : U.heap.size = w.heap.size := by rw [hU]; simp
  have ot : ∀ k, k ≠ wb → U.heap[k]? = w.heap[k]? := fun k hk => by rw [hU]; exact heap_setCell_other _ _ _ _ hk
  have ho : U.heap[wb]? = some (.cells #[fnv fid cb, .map (some fb), .slice (some ⟨g, 0, none⟩) i.length c] 184 (0, 0)) := by rw [hU, Lib.heap_setCell_same h.obj]; rfl
  have fU : Fr O w U := ⟨by rw [hU]; rfl, by rw [hU]; rfl, by rw [hU]; rfl, by rw [sz]; exact Nat.le_refl _, fun k _ hn => ot k (fun e => hn (e ▸ h.ownW))⟩
  have k1 : Wk T O U wb fb (.slice (some ⟨g, 0, none⟩) i.length c) ns R fid cb nx F n i := ⟨h.nxt.kept (by rw [sz]; exact Nat.le_refl _) (fun k hk => ot k (fun e => h.dis k hk (e ▸ h.ownW))), ho, h.found.kept (ot fb (h.found.ne h.obj)), own_kept hrow (fun b hb => ot b (by cases hb; exact hgw)), h.fin, fun y hy => h.rin y (by simp [hy]), by have := h.len; simp at this; omega, h.ownW, h.ownF, fun b hb => h.ownR b hb, h.dis, fun k hk => by rw [sz]; exact h.size k hk⟩
  have bb := below_new U (.cells #[kv x.1, .bool x.2] 115)
  have ci := cell_id U x
  rw [sz] at ci
  exact ⟨k1.below bb (Nat.le_refl _), fU.trans (Fr.of_below (S := fun _ => False) bb) (fun _ e => e.elim), ci⟩
/-- one more is found -/
theorem Wk.push {y : Id} {Y Z Z' : World} {v' : Value} (h : Wk T O w wb fb rv ns R fid cb nx F n rest) (hy : y ∈ ns) (hF : F y = false) (gY : w.grownBy Y (some fb)) (hm : Mq Y fb (n + 1) (Mv.upd (sf F) y unit)) (hZ : Below Y.heap.size Y Z)
    (hv : Z'.ownsRow 0 115 2 v' (rest ++ [y]).length (rc (rest ++ [y]))) (gZ : Z.grownBy Z' rv.ownBlock) (hb : v'.ownBlock = rv.ownBlock ∨ ∃ g, v'.ownBlock = some g ∧ Z.heap.size ≤ g) :
    Wk T (fun k => O k ∨ v'.ownBlock = some k) (Z'.setCell ⟨wb, 2, none⟩ v') wb fb v' ns R fid cb nx (fun z => decide (z = y) || F z) (n + 1) (rest ++ [y]) ∧ Fr O w (Z'.setCell ⟨wb, 2, none⟩ v') ∧ ∀ k, (O k ∨ v'.ownBlock = some k) → O k ∨ w.heap.size ≤ k := by
  have s1 := gY.size
  have s2 := hZ.size
  have s3 := gZ.size
  have hwl := h.size wb h.ownW
  have hfl := h.found.lt
  have rvw : ∀ b, rv.ownBlock = some b → b ≠ wb ∧ b ≠ fb ∧ b < w.heap.size := fun b e => by
    obtain ⟨h0, h1 | ⟨g, cap, cur, rfl, hB, hg, _⟩⟩ := h.row
    · rw [h1.1] at e; cases e
    · cases e
      refine ⟨fun e => ?_, fun e => h.found.ne hg e.symm, (Array.getElem?_eq_some_iff.1 hg).1⟩
      have h6 := h.obj
      rw [← e] at h6
      have h8 := hg.symm.trans h6
      exact absurd (Obj.cells.inj (Option.some.inj h8)).2.1 (by decide)
  have wf : wb ≠ fb := (h.found.ne h.obj).symm
  have vw : ∀ b, v'.ownBlock = some b → b ≠ wb := fun b e => by
    rcases hb with e2 | ⟨g, e2, hg⟩
    · exact (rvw b (e2 ▸ e)).1
    · rw [e2] at e; cases e; omega
  have old : ∀ k, k < w.heap.size → k ≠ fb → rv.ownBlock ≠ some k → Z'.heap[k]? = w.heap[k]? := fun k hk e1 e2 =>
    (gZ.block k (by omega) (fun e => e2 e.symm)).trans ((hZ.block k (by omega)).trans (gY.block k hk (fun e => e1 (Option.some.inj e))))
  have ot : ∀ k, k ≠ wb → (Z'.setCell ⟨wb, 2, none⟩ v').heap[k]? = Z'.heap[k]? := fun k hk => heap_setCell_other _ _ _ _ hk
  have sz : (Z'.setCell ⟨wb, 2, none⟩ v').heap.size = Z'.heap.size := by simp
  have fr : Fr O w (Z'.setCell ⟨wb, 2, none⟩ v') := ⟨gZ.os.trans (hZ.os.trans gY.os), gZ.tape.trans (hZ.tape.trans gY.tape), gZ.output.trans (hZ.output.trans gY.output), by rw [sz]; omega, fun k hk hn =>
    (ot k (fun e => hn (e ▸ h.ownW))).trans (old k hk (fun e => hn (e ▸ h.ownF)) (fun e => hn (h.ownR k e)))⟩
  have hobj : Z'.heap[wb]? = some (.cells #[fnv fid cb, .map (some fb), rv] 184 (0, 0)) := (old wb hwl wf (fun e => (rvw wb e).1 rfl)).trans h.obj
  refine ⟨⟨h.nxt.kept fr.size (fun k hk => fr.block k (h.nxt.size k hk) (h.dis k hk)), ?_, ?_, own_kept hv (fun b e => ot b (vw b e)), ?_, ?_, ?_, .inl h.ownW, .inl h.ownF, fun b e => .inr e, ?_, ?_⟩, fr, ?_⟩
  · rw [Lib.heap_setCell_same hobj]; rfl
  · have e1 : (Z'.setCell ⟨wb, 2, none⟩ v').heap[fb]? = Y.heap[fb]? := (ot fb (fun e => wf e.symm)).trans ((gZ.block fb (by omega) (fun e => (rvw fb e.symm).2.1 rfl)).trans (hZ.block fb (by omega)))
    refine (hm.kept e1).congr fun k _ => ?_
    unfold Mv.upd sf
    by_cases e : k = y <;> simp [e]
  · intro z hz
    simp only [Bool.or_eq_true, decide_eq_true_eq] at hz
    rcases hz with rfl | hz
    · exact hy
    · exact h.fin z hz
  · intro z hz
    rw [List.mem_append, List.mem_singleton] at hz
    rcases hz with hz | rfl
    · exact h.rin z hz
    · exact hy
  · have := h.len; simp; omega
  · rintro k hk (e | e)
    · exact h.dis k hk e
    · rcases hb with e2 | ⟨g, e2, hg⟩
      · exact h.dis k hk (h.ownR k (e2 ▸ e))
      · rw [e2] at e; cases e; have := h.nxt.size _ hk; omega
  · rintro k (e | e)
    · rw [sz]; have := h.size k e; omega
    · rw [sz]; exact (hv.lt k e).2
  · rintro k (e | e)
    · exact .inl e
    · rcases hb with e2 | ⟨g, e2, hg⟩
      · exact .inl (h.ownR k (e2 ▸ e))
      · rw [e2] at e; cases e; exact .inr (by omega)
set_option maxHeartbeats 4000000 in
theorem step_up (h : Wk T O w wb fb rv ns R 110 cb nx F n rest) {s : Id} (hw : WI R s (fun x => F x = true) rest) (hne : rest ≠ []) (hN : ns.length ≤ 900000) : Calls Tryz.prog 96 #[.pointer (some ⟨wb, 0, none⟩)] w fun e w' => e = .returned (.tuple #[]) ∧ Stepped T O w w' wb fb ns R 110 cb nx s (ns.length - n + rest.length) := by
  obtain ⟨i, x, hi⟩ := last_of hne
  subst hi
  obtain ⟨g, c, cur, rfl, hic, cx1, cx2, hx, hOg, hgw, hgf, hgc, hrow⟩ := h.top rfl
  have hcm : c ≤ maxLen := by
    rcases h.row.2 with h1 | ⟨g', cap, cur', e, _, _, _, h4, _⟩
    · exact absurd h1.1 (by simp)
    · have e2 := (Value.slice.inj e).2.2; rw [e2]; exact h4
  obtain ⟨M, hM⟩ : ∃ M, M = i.length + 1 := ⟨_, rfl⟩
  obtain ⟨hw1, hw2, hlt, hMx⟩ := big hM (by omega) hcm
  have cc := h.cells
  have fz : w.frozen? ⟨wb, 2, none⟩ = false := by simp [World.frozen?, h.obj]
  have hwl := h.size wb h.ownW
  unfold fnv at cc
  rw [← hM] at cc
  have HH := Lib.hid (And.intro h (And.intro hw (And.intro hN (And.intro hx (And.intro hOg (And.intro hgw (And.intro hgf (And.intro hgc (And.intro hrow hM)))))))))
  have hmc : i.length ≤ c := by omega
  clear h hw hne hN hx hOg hgw hgf hgc hrow hM hic hcm
  obtain ⟨m, hm⟩ : ∃ m, m = i.length := ⟨_, rfl⟩
  rw [← hm] at cx1 cx2 hw1 hw2 hlt hmc
  have HM := Lib.hid hm
  clear hm
  have hmix : Tryz.prog.follows .mixedOrders = true := by kernel_rfl
  unfold kv at cx1
  go_enter Tryz.func96, Tryz.ntmps96
  go_wp2_with fail
  obtain ⟨k1, f1, ci⟩ := HH.out.1.pop HH.out.2.2.2.2.2.1 HH.out.2.2.2.2.2.2.2.2.1
  unfold kv at k1 f1 ci
  rw [← HM.out] at k1 f1 ci
  obtain ⟨V, hV⟩ : ∃ V, V = (w.setCell ⟨wb, 2, none⟩ (.slice (some ⟨g, 0, none⟩) m c)).alloc (.cells #[.string ⟨x.1.toArray⟩, .bool x.2] 115) := ⟨_, rfl⟩
  rw [← hV] at k1 f1 ci ⊢
  clear hV fz cc cx1 cx2 hwl
  have cc := k1.cells
  unfold fnv at cc
  have hcall : ∀ X, Below V.heap.size V X → Calls Tryz.prog 110 #[ek x, .pointer (some ⟨cb, 0, none⟩)] X fun e w' => e = .returned (.map (some (nx x))) ∧ Below X.heap.size X w' := fun X hX => k1.nxt.call X hX.size (fun k hk => hX.block k (k1.nxt.size k hk)) x HH.out.2.2.2.1
  obtain ⟨n0, hset⟩ := k1.nxt.set x HH.out.2.2.2.1
  have hj0 := WI.step HH.out.2.1
  have hT := k1.nxt.own x HH.out.2.2.2.1
  have H1 := Lib.hid (And.intro k1 (And.intro f1 (And.intro hj0 hT)))
  clear k1 f1 hj0 hT
  unfold ek kv at hcall
  refine begin' 6 (fun Z => Below V.heap.size V Z) hmix ((Below.refl _ V).drew) (fun hS0 => ?_)
  refine Ht.takeD 8 (i := 0) ⟨some 27, _, _, _, _, _⟩ (.pointer (some ⟨wb, 0, none⟩)) rfl (by kernel_rfl) (by kernel_rfl) (by decide) (by kernel_rfl) (by kernel_rfl) (by kernel_rfl) hS0 (Or.inl ⟨by rfl, by (intro X hX; go_simp)⟩) ?_
  simp only [Act.put, List.setIfInBounds_toArray, List.set_cons_zero, List.set_cons_succ]
  refine Ht.takeD 8 (i := 1) ⟨some 28, _, _, _, _, _⟩ (.pointer (some ⟨wb, 0, none⟩)) rfl (by kernel_rfl) (by kernel_rfl) (by decide) (by kernel_rfl) (by kernel_rfl) (by kernel_rfl) hS0 (Or.inl ⟨by rfl, by (intro X hX; go_simp)⟩) ?_
  simp only [Act.put, List.setIfInBounds_toArray, List.set_cons_zero, List.set_cons_succ]
  refine Ht.takeD 8 (i := 2) ⟨some 29, _, _, _, _, _⟩ (.pointer (some ⟨wb, 0, none⟩)) rfl (by kernel_rfl) (by kernel_rfl) (by decide) (by kernel_rfl) (by kernel_rfl) (by kernel_rfl) hS0 (Or.inl ⟨by rfl, by (intro X hX; go_simp)⟩) ?_
  simp only [Act.put, List.setIfInBounds_toArray, List.set_cons_zero, List.set_cons_succ]
  refine Ht.takeD 8 (i := 3) ⟨some 30, _, _, _, _, _⟩ (.func (.func 110) #[] #[.pointer (some ⟨cb, 0, none⟩)]) rfl (by kernel_rfl) (by kernel_rfl) (by decide) (by kernel_rfl) (by kernel_rfl) (by kernel_rfl) hS0 (Or.inl ⟨by rfl, by (intro X hX; have := bc hX cc.1; go_simp)⟩) ?_
  simp only [Act.put, List.setIfInBounds_toArray, List.set_cons_zero, List.set_cons_succ]
  refine Ht.takeD 8 (i := 4) ⟨some 31, _, _, _, _, _⟩ (.agg #[.string ⟨x.1.toArray⟩, .bool x.2]) rfl (by kernel_rfl) (by kernel_rfl) (by decide) (by kernel_rfl) (by kernel_rfl) (by kernel_rfl) hS0 (Or.inl ⟨by rfl, by (intro X hX; have := And.intro (bc hX ci.1) (bc hX ci.2); go_simp)⟩) ?_
  simp only [Act.put, List.setIfInBounds_toArray, List.set_cons_zero, List.set_cons_succ]
  refine Ht.step (i := 5) ⟨some 32, _, _, _, _, _⟩ rfl (by kernel_rfl) (by rfl) (fun K hK => ?_)
  refine Ht.enter 110 #[.agg #[.string ⟨x.1.toArray⟩, .bool x.2], .pointer (some ⟨cb, 0, none⟩)] (by have hen := fun args w => enters_of (P := Tryz.prog) Tryz.func110 (by kernel_rfl) rfl args w; go_simp) (hcall _ hS0) ?_
  rintro e X1 ⟨rfl, hx1⟩
  have b1 : Below V.heap.size V X1 := hS0.trans (hx1.mono hS0.size)
  obtain ⟨W0, cnt0, hrun, hrg, hgr, hsz⟩ := (hset.kept (b1.block _ hset.lt)).range kindS
  have hw0 : Wj T O w wb fb ns R 110 cb nx s x (ns.length - n + (i ++ [x]).length) X1.heap.size W0 [] cnt0 O (.slice (some ⟨g, 0, none⟩) m c) F n i := by
    have k1 := (H1.out.1.below b1 (Nat.le_refl _)).below ((Below.refl _ X1).grown hgr (Nat.le_refl _) (fun j hj => by cases hj)) (Nat.le_refl _)
    have sw : w.heap.size ≤ X1.heap.size := Nat.le_trans H1.out.2.1.size b1.size
    exact ⟨k1, H1.out.2.2.1, hrg, (H1.out.2.1.trans (Fr.of_below (S := fun _ => False) b1) (fun _ e => e.elim)).trans (Fr.grownN (S := fun _ => False) hgr (fun _ e => by cases e)) (fun _ e => e.elim), fun k hk => .inl hk, ⟨fun e => by have := HH.out.1.size _ e; omega, sw⟩, H1.out.2.2.2, by simp⟩
  refine ⟨_, rfl, hK _ _ (fun hn => b1) (fun hnx => ?_)⟩
  clear hK K hnx
  try simp only [Act.put, List.setIfInBounds_toArray, List.set_cons_zero, List.set_cons_succ]
  refine Ht.step (i := 6) ⟨some 33, _, _, _, _, _⟩ rfl (by kernel_rfl) (by rfl) (fun K hK => ?_)
  go_simp
  refine hK _ _ (fun hn => absurd rfl hn) (fun hnx => ?_)
  clear hK K hnx
  try simp only [Act.put, List.setIfInBounds_toArray, List.set_cons_zero, List.set_cons_succ]
  refine done (by kernel_rfl) ?_
  obtain ⟨r, hr⟩ : ∃ r, r = X1.heap.size := ⟨_, rfl⟩
  rw [← hr] at hw0 ⊢
  have HW0 := Lib.hid hw0
  clear hw0 hrun hrg hgr hsz b1 hx1 hr hset hcall cc ci hS0 H1
  go_wp2_with fail
  try go_frame
  go_loopw [4] (fun _ wr => ∃ es cnt O' rv' F' n' rest', Wj T O w wb fb ns R 110 cb nx s x (ns.length - n + (i ++ [x]).length) r wr es cnt O' rv' F' n' rest') (fun _ wr => wr.rangeLeft (nx x) r)
  case atStart => exact ⟨_, _, _, _, _, _, _, HW0.out⟩
  case round =>
    obtain ⟨es, cnt, O', rv', F', n', rest', p⟩ := hrel
    have HP := Lib.hid p
    have hrg := p.rg
    have HL := Lib.hid p.rg.left_eq
    clear p
    go_wp2_with (first
      | (at_next; refine Mv.wpList_nextQ kindS _ rfl _ rfl (nx x) r _ es cnt rfl hrg ?_ ?_)
      | go_in)
    · intro hdone
      have HD := Lib.hid hdone
      clear hdone hrg
      go_wp2_with fail
      go_end0
      have p := HP.out
      refine ⟨by simp, _, _, _, _, _, p.mem, p.wj.done fun y hy => HD.out y ?_ (by rw [sf_some]; exact hy), p.fr, p.new, p.ms⟩
      exact p.mem.nxt.ok y (p.mem.nxt.edge _ _ hy)
    · rintro ⟨y, v, w1, cnt1, hwy, hfy, hny, hrg1, hlt1, hg1, hs1⟩ hen
      dsimp only at hen ⊢
      have hRy : R x y = true := by
        have h1 := hfy
        unfold sf at h1
        by_cases e : R x y = true
        · exact e
        · rw [if_neg e] at h1; cases h1
      have p := HP.out
      have hrO : ∀ k, T k ∨ O' k → k ≠ r := fun k hk e => by
        rcases hk with hk | hk
        · have h1 := HH.out.1.nxt.size k hk; have h2 := p.nr.2; omega
        · exact p.nr.1 (e ▸ hk)
      have m1 := p.mem.fr (Fr.grown (S := fun k => k = r) hg1 (.inl rfl)) hrO
      have hyn : y ∈ ns := m1.nxt.edge _ _ hRy
      have bA := below_new w1 (.cells #[kv y.1, .bool y.2] 115)
      have cA := cell_id w1 y
      have m2 := m1.below bA (Nat.le_refl _)
      have rg2 := hrg1.kept (Y := w1.alloc (.cells #[kv y.1, .bool y.2] 115)) (bA.block _ (m1.nxt.size _ p.tx)) (bA.block _ hrg1.lt)
      have f2 : Fr O w (w1.alloc (.cells #[kv y.1, .bool y.2] 115)) := (p.fr.trans (Fr.grown (S := fun k => k = r) hg1 (.inl rfl)) (fun k e => by have := p.nr.2; exact .inr (by omega))).trans (Fr.of_below (S := fun _ => False) bA) (fun _ e => e.elim)
      have HY := Lib.hid (And.intro m2 (And.intro rg2 (And.intro f2 (And.intro hRy (And.intro hyn (And.intro hlt1 (And.intro hrO hwy)))))))
      have hwr := whas_any m2 y hwy
      have HWs := Lib.hid hg1.size
      clear m1 m2 rg2 f2 hRy hyn hrg1 hlt1 hg1 hs1 hfy hny hwy hrg p hrO bA
      unfold ek kv at hen
      unfold ek kv
      unfold kv at cA
      go_wp2_with fail
      refine hwr.mono ?_
      rintro e W3 ⟨rfl, hb3⟩
      obtain ⟨J, hJ⟩ : ∃ J, J = w1.heap.size := ⟨_, rfl⟩
      have HJO : ∀ j, j = J → ¬ (T j ∨ O' j) := fun j e h => by
        rw [e, hJ] at h
        have h1 := HP.out.mem.lt h
        have h2 := HY.out.2.2.1.size
        have h3 : wr.heap.size ≤ w1.heap.size := HWs.out
        omega
      have bX : Below (w1.alloc (.cells #[kv y.1, .bool y.2] 115)).heap.size (w1.alloc (.cells #[kv y.1, .bool y.2] 115)) W3 := hb3
      have m3 := HY.out.1.below hb3 (Nat.le_refl _)
      have rg3 := HY.out.2.1.kept (Y := W3) (hb3.block _ (HY.out.1.nxt.size _ HP.out.tx)) (hb3.block _ HY.out.2.1.lt)
      have f3 : Fr O w W3 := HY.out.2.2.1.trans (Fr.of_below (S := fun _ => False) hb3) (fun _ e => e.elim)
      have c3 : W3.cell? ⟨w1.heap.size, 0, none⟩ = some (.string ⟨y.1.toArray⟩) ∧ W3.cell? ⟨w1.heap.size, 1, none⟩ = some (.bool y.2) := ⟨bc hb3 cA.1, bc hb3 cA.2⟩
      have HZ := Lib.hid (And.intro m3 (And.intro rg3 f3))
      clear hb3 bX cA hwr hen
      rw [← hJ] at c3 ⊢
      clear hJ
      by_cases hF : F' y = true
      · have HF := Lib.hid hF
        rw [hF]
        clear hF m3 rg3 f3 c3
        go_wp2_with fail
        go_roundw
        case rel =>
          have p := HP.out
          exact ⟨_, _, _, _, _, _, _, HZ.out.1, p.wj.old HF.out, HZ.out.2.1, HZ.out.2.2, p.new, p.nr, p.tx, p.ms⟩
        case measure => rw [HZ.out.2.1.left_eq, HL.out]; exact HY.out.2.2.2.2.2.1
      · have hFf : F' y = false := by simpa using hF
        rw [hFf]
        have hn' : n' < maxLen := by have := m3.n_le; have := HH.out.2.2.1; unfold maxLen; omega
        obtain ⟨Y, hrY, hmY, gY, sY⟩ := Mv.Mp.put kindS (w := W3.drew) (m3.found.kept rfl) hn' HY.out.2.2.2.2.2.2.2 unit
        rw [sf_some, hFf] at hmY
        have gY' : W3.grownBy Y (some fb) := ⟨gY.os, gY.tape, gY.output, gY.size, gY.block⟩
        have cw := m3.cells
        obtain ⟨a', c', rfl⟩ := own_shape m3.row
        have yw : ∀ k, k < W3.heap.size → k ≠ fb → Y.heap[k]? = W3.heap[k]? := fun k hk e => gY'.block k hk (fun e2 => e (Option.some.inj e2))
        have hwbl := m3.size wb m3.ownW
        have cY2 : Y.cell? ⟨wb, 2, none⟩ = some (.slice a' rest'.length c') := by
          have e1 := yw wb hwbl (m3.found.ne m3.obj).symm
          have h2 := cw.2.2
          unfold World.cell? at h2 ⊢
          rw [e1]; exact h2
        have hJl := World.block_lt_of_cell? _ _ c3.1
        have hJf : J ≠ fb := fun e => by
          obtain ⟨es2, cl2, h2⟩ := m3.found.obj
          have h3 := c3.1
          unfold World.cell? at h3
          rw [e, h2] at h3
          simp at h3
        have cYJ : Y.cell? ⟨J, 0, none⟩ = some (.string ⟨y.1.toArray⟩) ∧ Y.cell? ⟨J, 1, none⟩ = some (.bool y.2) := by
          have e1 := yw J hJl hJf
          have h1 := c3.1
          have h2 := c3.2
          unfold World.cell? at h1 h2 ⊢
          rw [e1]; exact ⟨h1, h2⟩
        have hNw : ¬ (Value.slice a' rest'.length c').ownBlock = some wb := fun e => by
          obtain ⟨h0, h1 | ⟨g2, cap2, cur2, h2, _, hg2, _⟩⟩ := m3.row
          · rw [h1.1] at e; cases e
          · rw [h2] at e
            cases e
            have h8 := hg2.symm.trans m3.obj
            exact absurd (Obj.cells.inj (Option.some.inj h8)).2.1 (by decide)
        have hNJ : ¬ (Value.slice a' rest'.length c').ownBlock = some J := fun e => HJO J rfl (.inr (m3.ownR J e))
        have HF := Lib.hid (And.intro hFf (And.intro hmY (And.intro gY' (And.intro sY (And.intro hwbl (m3.row))))))
        have cw1 := cw.2.1
        clear hF hFf hmY gY gY' sY yw hJl hJf hn' m3 rg3 f3 cw hwbl
        obtain ⟨L', hL'⟩ : ∃ L, L = rest'.length := ⟨_, rfl⟩
        rw [← hL'] at cY2 hNw hNJ
        unfold ek kv unit at hrY
        have HLL := Lib.hid hL'
        clear hL'
        go_wp2_with fail
  
        refine begin' 6 (fun Z => Below W3.heap.size W3 Z) hmix ((Below.refl _ W3).drew) (fun hS0 => ?_)
        refine Ht.takeD 8 (i := 0) ⟨some 42, _, _, _, _, _⟩ (.pointer (some ⟨wb, 0, none⟩)) rfl (by kernel_rfl) (by kernel_rfl) (by decide) (by kernel_rfl) (by kernel_rfl) (by kernel_rfl) hS0 (Or.inl ⟨by rfl, by (intro X hX; go_simp)⟩) ?_
        simp only [Act.put, List.setIfInBounds_toArray, List.set_cons_zero, List.set_cons_succ]
        refine Ht.takeD 8 (i := 1) ⟨some 43, _, _, _, _, _⟩ (.pointer (some ⟨wb, 0, none⟩)) rfl (by kernel_rfl) (by kernel_rfl) (by decide) (by kernel_rfl) (by kernel_rfl) (by kernel_rfl) hS0 (Or.inl ⟨by rfl, by (intro X hX; go_simp)⟩) ?_
        simp only [Act.put, List.setIfInBounds_toArray, List.set_cons_zero, List.set_cons_succ]
        refine Ht.takeD 8 (i := 2) ⟨some 44, _, _, _, _, _⟩ (.pointer (some ⟨wb, 1, none⟩)) rfl (by kernel_rfl) (by kernel_rfl) (by decide) (by kernel_rfl) (by kernel_rfl) (by kernel_rfl) hS0 (Or.inl ⟨by rfl, by (intro X hX; go_simp)⟩) ?_
        simp only [Act.put, List.setIfInBounds_toArray, List.set_cons_zero, List.set_cons_succ]
        refine Ht.takeD 8 (i := 3) ⟨some 45, _, _, _, _, _⟩ (.map (some fb)) rfl (by kernel_rfl) (by kernel_rfl) (by decide) (by kernel_rfl) (by kernel_rfl) (by kernel_rfl) hS0 (Or.inl ⟨by rfl, by (intro X hX; have := bc hX cw1; go_simp)⟩) ?_
        simp only [Act.put, List.setIfInBounds_toArray, List.set_cons_zero, List.set_cons_succ]
        refine Ht.takeD 8 (i := 4) ⟨some 46, _, _, _, _, _⟩ (.agg #[.string ⟨y.1.toArray⟩, .bool y.2]) rfl (by kernel_rfl) (by kernel_rfl) (by decide) (by kernel_rfl) (by kernel_rfl) (by kernel_rfl) hS0 (Or.inl ⟨by rfl, by (intro X hX; have := And.intro (bc hX c3.1) (bc hX c3.2); go_simp)⟩) ?_
        simp only [Act.put, List.setIfInBounds_toArray, List.set_cons_zero, List.set_cons_succ]
        refine Ht.takeD 8 (i := 5) ⟨some 47, _, _, _, _, _⟩ (.agg #[]) rfl (by kernel_rfl) (by kernel_rfl) (by decide) (by kernel_rfl) (by kernel_rfl) (by kernel_rfl) hS0 (Or.inl ⟨by rfl, by (intro X hX; go_simp)⟩) ?_
        simp only [Act.put, List.setIfInBounds_toArray, List.set_cons_zero, List.set_cons_succ]
        refine Ht.step (i := 6) ⟨none, _, _, _, _, _⟩ rfl (by kernel_rfl) (by rfl) (fun K hK => ?_)
        go_simp
        refine hK _ _ (fun hn => absurd rfl hn) (fun hnx => ?_)
        clear hK K hnx
        try simp only [Act.put, List.setIfInBounds_toArray, List.set_cons_zero, List.set_cons_succ]
        refine done (by kernel_rfl) ?_
        clear hS0 hrY
        go_wp2_with fail
        have m3 := HZ.out.1
        clear c3 cw1
        refine begin' 10 (fun Z => Fr (fun k => (Value.slice a' L' c').ownBlock = some k) Y Z) hmix (Fr.refl _ Y).drew (fun hS0 => ?_)
        refine Ht.takeD 8 (i := 0) ⟨some 48, _, _, _, _, _⟩ (.pointer (some ⟨wb, 0, none⟩)) rfl (by kernel_rfl) (by kernel_rfl) (by decide) (by kernel_rfl) (by kernel_rfl) (by kernel_rfl) hS0 (Or.inl ⟨by rfl, by (intro X hX; go_simp)⟩) ?_
        simp only [Act.put, List.setIfInBounds_toArray, List.set_cons_zero, List.set_cons_succ]
        refine Ht.takeD 8 (i := 1) ⟨some 49, _, _, _, _, _⟩ (.pointer (some ⟨wb, 0, none⟩)) rfl (by kernel_rfl) (by kernel_rfl) (by decide) (by kernel_rfl) (by kernel_rfl) (by kernel_rfl) hS0 (Or.inl ⟨by rfl, by (intro X hX; go_simp)⟩) ?_
        simp only [Act.put, List.setIfInBounds_toArray, List.set_cons_zero, List.set_cons_succ]
        refine Ht.takeD 8 (i := 2) ⟨some 50, _, _, _, _, _⟩ (.pointer (some ⟨wb, 0, none⟩)) rfl (by kernel_rfl) (by kernel_rfl) (by decide) (by kernel_rfl) (by kernel_rfl) (by kernel_rfl) hS0 (Or.inl ⟨by rfl, by (intro X hX; go_simp)⟩) ?_
        simp only [Act.put, List.setIfInBounds_toArray, List.set_cons_zero, List.set_cons_succ]
        refine Ht.takeD 8 (i := 3) ⟨some 51, _, _, _, _, _⟩ (.pointer (some ⟨wb, 2, none⟩)) rfl (by kernel_rfl) (by kernel_rfl) (by decide) (by kernel_rfl) (by kernel_rfl) (by kernel_rfl) hS0 (Or.inl ⟨by rfl, by (intro X hX; go_simp)⟩) ?_
        simp only [Act.put, List.setIfInBounds_toArray, List.set_cons_zero, List.set_cons_succ]
        refine Ht.takeD 8 (i := 4) ⟨some 52, _, _, _, _, _⟩ (.slice a' L' c') rfl (by kernel_rfl) (by kernel_rfl) (by decide) (by kernel_rfl) (by kernel_rfl) (by kernel_rfl) hS0 (Or.inl ⟨by rfl, by (intro X hX; have := hX.cell cY2 hNw; go_simp)⟩) ?_
        simp only [Act.put, List.setIfInBounds_toArray, List.set_cons_zero, List.set_cons_succ]
        refine Ht.takeD 8 (i := 5) ⟨some 53, _, _, _, _, _⟩ (.agg #[.string ⟨y.1.toArray⟩, .bool y.2]) rfl (by kernel_rfl) (by kernel_rfl) (by decide) (by kernel_rfl) (by kernel_rfl) (by kernel_rfl) hS0 (Or.inl ⟨by rfl, by (intro X hX; have := And.intro (hX.cell cYJ.1 hNJ) (hX.cell cYJ.2 hNJ); go_simp)⟩) ?_
        simp only [Act.put, List.setIfInBounds_toArray, List.set_cons_zero, List.set_cons_succ]
        obtain ⟨hFf, hmY, gY', sY, hwbl, hrow3⟩ := HF.out
        rw [if_neg (by simp)] at hmY
        have bU : Below Y.heap.size Y (Y.drew.alloc (.cells #[.string ⟨y.1.toArray⟩, .bool y.2] 115)) := (Below.refl _ Y).drew.alloc (Nat.le_refl _) _
        have cU := cell_id Y.drew y
        unfold kv at cU
        obtain ⟨U, hU⟩ : ∃ U, U = (Y.drew.alloc (.cells #[.string ⟨y.1.toArray⟩, .bool y.2] 115)) := ⟨_, rfl⟩
        rw [← hU] at bU cU
        have hv0 : U.ownsRow 0 115 2 (.slice a' L' c') rest'.length (rc rest') := by
          rw [HLL.out]
          refine own_kept hrow3 fun b hb => ?_
          have hO : O' b := m3.ownR b (by rw [HLL.out] at hNw; exact hb)
          have hbl := m3.size b hO
          have hbf : b ≠ fb := fun e => by
            obtain ⟨h0, h1 | ⟨g2, cap2, cur2, h2, _, hg2, _⟩⟩ := hrow3
            · rw [h1.1] at hb; cases hb
            · rw [h2] at hb
              cases hb
              exact m3.found.ne hg2 e.symm
          exact (bU.block b (Nat.lt_of_lt_of_le hbl gY'.size)).trans (gY'.block b hbl (fun e => hbf (Option.some.inj e)))
        have hlen : rest'.length ≤ 1000000 := by have := m3.len; have := m3.n_le; have := HH.out.2.2.1; omega
        obtain ⟨v9, w9, hra, hv9, gZ, hb9⟩ := push_id y hv0 hlen ⟨Y.heap.size, 0, none⟩ cU 182
        obtain ⟨k2, fr2, nw2⟩ := m3.push HY.out.2.2.2.2.1 hFf gY' hmY bU hv9 (by rw [← HLL.out]; exact gZ) (by rw [← HLL.out]; exact hb9)
        have f9 : Fr (fun k => (Value.slice a' L' c').ownBlock = some k) Y w9 := (Fr.of_below bU).trans (Fr.grownN (S := fun k => (Value.slice a' L' c').ownBlock = some k) gZ (fun b e => .inl e)) (fun x e => .inl e)
        have hoY : Y.heap[wb]? = some (.cells #[fnv 110 cb, .map (some fb), .slice a' L' c'] 184 (0, 0)) := by
          have h1 := (gY'.block wb hwbl (fun e => m3.found.ne m3.obj (Option.some.inj e).symm)).trans m3.obj
          rw [HLL.out]; exact h1
        have ho9 : w9.heap[wb]? = some (.cells #[fnv 110 cb, .map (some fb), .slice a' L' c'] 184 (0, 0)) := (f9.block wb (Nat.lt_of_lt_of_le hwbl gY'.size) hNw).trans hoY
        have c9 : w9.cell? ⟨wb, 2, none⟩ = some (.slice a' L' c') := by rw [cell_of_row w9 wb 2 _ _ _ ho9]; rfl
        have z9 : w9.frozen? ⟨wb, 2, none⟩ = false := by simp [World.frozen?, ho9]
        obtain ⟨a9, d9, rfl⟩ := own_shape hv9
        obtain ⟨L9, hL9⟩ : ∃ L, L = (rest' ++ [y]).length := ⟨_, rfl⟩
        rw [← hL9] at hra k2 fr2 nw2
        have p := HP.out
        have rgl := HZ.out.2.1.lt
        have hK := Lib.hid (show Wj T O w wb fb ns R 110 cb nx s x (ns.length - n + (i ++ [x]).length) r (w9.setCell ⟨wb, 2, none⟩ (.slice a9 L9 d9)) (es ++ [y]) cnt1 _ _ _ _ _ from
          ⟨k2, by
            have e : (fun z => z = y ∨ F' z = true) = (fun z => (decide (z = y) || F' z) = true) := by funext z; simp
            rw [← e]; exact p.wj.new HY.out.2.2.2.1, HZ.out.2.1.kept (fr2.block _ (m3.nxt.size _ p.tx) (m3.dis _ p.tx)) (fr2.block _ rgl p.nr.1), HZ.out.2.2.trans fr2 p.new, fun k hk => (nw2 k hk).elim (p.new k) (fun e => .inr (Nat.le_trans HZ.out.2.2.size e)),
            ⟨fun e => (nw2 r e).elim p.nr.1 (by omega), p.nr.2⟩, p.tx, by
              have h1 := k2.n_le
              have h2 := p.ms
              simp at h2 ⊢
              omega⟩)
        clear hL9 hv9 hb9 cU k2 fr2 nw2 ho9 hoY hv0 hlen hFf hmY gY' sY hwbl hrow3 m3 rgl p
        refine Ht.step (i := 6) ⟨some 54, _, _, _, _, _⟩ rfl (by kernel_rfl) (by rfl) (fun K hK => ?_)
        go_simp
        refine hK _ _ (fun hn => (by rw [hU] at bU; exact Fr.of_below bU)) (fun hnx => ?_)
        clear hK K hnx
        try simp only [Act.put, List.setIfInBounds_toArray, List.set_cons_zero, List.set_cons_succ]
        refine Ht.step (i := 7) ⟨some 55, _, _, _, _, _⟩ rfl (by kernel_rfl) (by rfl) (fun K hK => ?_)
        change Oper.wp _ _ _ (Y.drew.alloc (.cells #[.string ⟨y.1.toArray⟩, .bool y.2] 115)) _ _
        rw [← hU]
        clear hU
        refine wp_app _ _ rfl rfl rfl hra ?_
        refine hK _ _ (fun hn => f9) (fun hnx => ?_)
        clear hK K hnx
        try simp only [Act.put, List.setIfInBounds_toArray, List.set_cons_zero, List.set_cons_succ]
        refine Ht.takeD 8 (i := 8) ⟨some 56, _, _, _, _, _⟩ (.pointer (some ⟨wb, 0, none⟩)) rfl (by kernel_rfl) (by kernel_rfl) (by decide) (by kernel_rfl) (by kernel_rfl) (by kernel_rfl) f9 (Or.inl ⟨by rfl, by (intro X hX; go_simp)⟩) ?_
        simp only [Act.put, List.setIfInBounds_toArray, List.set_cons_zero, List.set_cons_succ]
        refine Ht.takeD 8 (i := 9) ⟨some 57, _, _, _, _, _⟩ (.pointer (some ⟨wb, 2, none⟩)) rfl (by kernel_rfl) (by kernel_rfl) (by decide) (by kernel_rfl) (by kernel_rfl) (by kernel_rfl) f9 (Or.inl ⟨by rfl, by (intro X hX; go_simp)⟩) ?_
        simp only [Act.put, List.setIfInBounds_toArray, List.set_cons_zero, List.set_cons_succ]
        refine Ht.step (i := 10) ⟨none, _, _, _, _, _⟩ rfl (by kernel_rfl) (by rfl) (fun K hK => ?_)
        go_simp
        refine hK _ _ (fun hn => absurd rfl hn) (fun hnx => ?_)
        clear hK K hnx
        try simp only [Act.put, List.setIfInBounds_toArray, List.set_cons_zero, List.set_cons_succ]
        refine done (by kernel_rfl) ?_
        clear hS0 hra c9 z9 f9 gZ bU
        go_wp2_with fail
        go_roundw
        case rel => exact ⟨_, _, _, _, _, _, _, hK.out⟩
        case measure => rw [hK.out.rg.left_eq, HL.out]; exact HY.out.2.2.2.2.2.1
set_option maxHeartbeats 4000000 in
theorem step_down (h : Wk T O w wb fb rv ns R 109 cb nx F n rest) {s : Id} (hw : WI R s (fun x => F x = true) rest) (hne : rest ≠ []) (hN : ns.length ≤ 900000) : Calls Tryz.prog 96 #[.pointer (some ⟨wb, 0, none⟩)] w fun e w' => e = .returned (.tuple #[]) ∧ Stepped T O w w' wb fb ns R 109 cb nx s (ns.length - n + rest.length) := by
  obtain ⟨i, x, hi⟩ := last_of hne
  subst hi
  obtain ⟨g, c, cur, rfl, hic, cx1, cx2, hx, hOg, hgw, hgf, hgc, hrow⟩ := h.top rfl
  have hcm : c ≤ maxLen := by
    rcases h.row.2 with h1 | ⟨g', cap, cur', e, _, _, _, h4, _⟩
    · exact absurd h1.1 (by simp)
    · have e2 := (Value.slice.inj e).2.2; rw [e2]; exact h4
  obtain ⟨M, hM⟩ : ∃ M, M = i.length + 1 := ⟨_, rfl⟩
  obtain ⟨hw1, hw2, hlt, hMx⟩ := big hM (by omega) hcm
  have cc := h.cells
  have fz : w.frozen? ⟨wb, 2, none⟩ = false := by simp [World.frozen?, h.obj]
  have hwl := h.size wb h.ownW
  unfold fnv at cc
  rw [← hM] at cc
  have HH := Lib.hid (And.intro h (And.intro hw (And.intro hN (And.intro hx (And.intro hOg (And.intro hgw (And.intro hgf (And.intro hgc (And.intro hrow hM)))))))))
  have hmc : i.length ≤ c := by omega
  clear h hw hne hN hx hOg hgw hgf hgc hrow hM hic hcm
  obtain ⟨m, hm⟩ : ∃ m, m = i.length := ⟨_, rfl⟩
  rw [← hm] at cx1 cx2 hw1 hw2 hlt hmc
  have HM := Lib.hid hm
  clear hm
  have hmix : Tryz.prog.follows .mixedOrders = true := by kernel_rfl
  unfold kv at cx1
  go_enter Tryz.func96, Tryz.ntmps96
  go_wp2_with fail
  obtain ⟨k1, f1, ci⟩ := HH.out.1.pop HH.out.2.2.2.2.2.1 HH.out.2.2.2.2.2.2.2.2.1
  unfold kv at k1 f1 ci
  rw [← HM.out] at k1 f1 ci
  obtain ⟨V, hV⟩ : ∃ V, V = (w.setCell ⟨wb, 2, none⟩ (.slice (some ⟨g, 0, none⟩) m c)).alloc (.cells #[.string ⟨x.1.toArray⟩, .bool x.2] 115) := ⟨_, rfl⟩
  rw [← hV] at k1 f1 ci ⊢
  clear hV fz cc cx1 cx2 hwl
  have cc := k1.cells
  unfold fnv at cc
  have hcall : ∀ X, Below V.heap.size V X → Calls Tryz.prog 109 #[ek x, .pointer (some ⟨cb, 0, none⟩)] X fun e w' => e = .returned (.map (some (nx x))) ∧ Below X.heap.size X w' := fun X hX => k1.nxt.call X hX.size (fun k hk => hX.block k (k1.nxt.size k hk)) x HH.out.2.2.2.1
  obtain ⟨n0, hset⟩ := k1.nxt.set x HH.out.2.2.2.1
  have hj0 := WI.step HH.out.2.1
  have hT := k1.nxt.own x HH.out.2.2.2.1
  have H1 := Lib.hid (And.intro k1 (And.intro f1 (And.intro hj0 hT)))
  clear k1 f1 hj0 hT
  unfold ek kv at hcall
  refine begin' 6 (fun Z => Below V.heap.size V Z) hmix ((Below.refl _ V).drew) (fun hS0 => ?_)
  refine Ht.takeD 8 (i := 0) ⟨some 27, _, _, _, _, _⟩ (.pointer (some ⟨wb, 0, none⟩)) rfl (by kernel_rfl) (by kernel_rfl) (by decide) (by kernel_rfl) (by kernel_rfl) (by kernel_rfl) hS0 (Or.inl ⟨by rfl, by (intro X hX; go_simp)⟩) ?_
  simp only [Act.put, List.setIfInBounds_toArray, List.set_cons_zero, List.set_cons_succ]
  refine Ht.takeD 8 (i := 1) ⟨some 28, _, _, _, _, _⟩ (.pointer (some ⟨wb, 0, none⟩)) rfl (by kernel_rfl) (by kernel_rfl) (by decide) (by kernel_rfl) (by kernel_rfl) (by kernel_rfl) hS0 (Or.inl ⟨by rfl, by (intro X hX; go_simp)⟩) ?_
  simp only [Act.put, List.setIfInBounds_toArray, List.set_cons_zero, List.set_cons_succ]
  refine Ht.takeD 8 (i := 2) ⟨some 29, _, _, _, _, _⟩ (.pointer (some ⟨wb, 0, none⟩)) rfl (by kernel_rfl) (by kernel_rfl) (by decide) (by kernel_rfl) (by kernel_rfl) (by kernel_rfl) hS0 (Or.inl ⟨by rfl, by (intro X hX; go_simp)⟩) ?_
  simp only [Act.put, List.setIfInBounds_toArray, List.set_cons_zero, List.set_cons_succ]
  refine Ht.takeD 8 (i := 3) ⟨some 30, _, _, _, _, _⟩ (.func (.func 109) #[] #[.pointer (some ⟨cb, 0, none⟩)]) rfl (by kernel_rfl) (by kernel_rfl) (by decide) (by kernel_rfl) (by kernel_rfl) (by kernel_rfl) hS0 (Or.inl ⟨by rfl, by (intro X hX; have := bc hX cc.1; go_simp)⟩) ?_
  simp only [Act.put, List.setIfInBounds_toArray, List.set_cons_zero, List.set_cons_succ]
  refine Ht.takeD 8 (i := 4) ⟨some 31, _, _, _, _, _⟩ (.agg #[.string ⟨x.1.toArray⟩, .bool x.2]) rfl (by kernel_rfl) (by kernel_rfl) (by decide) (by kernel_rfl) (by kernel_rfl) (by kernel_rfl) hS0 (Or.inl ⟨by rfl, by (intro X hX; have := And.intro (bc hX ci.1) (bc hX ci.2); go_simp)⟩) ?_
  simp only [Act.put, List.setIfInBounds_toArray, List.set_cons_zero, List.set_cons_succ]
  refine Ht.step (i := 5) ⟨some 32, _, _, _, _, _⟩ rfl (by kernel_rfl) (by rfl) (fun K hK => ?_)
  refine Ht.enter 109 #[.agg #[.string ⟨x.1.toArray⟩, .bool x.2], .pointer (some ⟨cb, 0, none⟩)] (by have hen := fun args w => enters_of (P := Tryz.prog) Tryz.func109 (by kernel_rfl) rfl args w; go_simp) (hcall _ hS0) ?_
  rintro e X1 ⟨rfl, hx1⟩
  have b1 : Below V.heap.size V X1 := hS0.trans (hx1.mono hS0.size)
  obtain ⟨W0, cnt0, hrun, hrg, hgr, hsz⟩ := (hset.kept (b1.block _ hset.lt)).range kindS
  have hw0 : Wj T O w wb fb ns R 109 cb nx s x (ns.length - n + (i ++ [x]).length) X1.heap.size W0 [] cnt0 O (.slice (some ⟨g, 0, none⟩) m c) F n i := by
    have k1 := (H1.out.1.below b1 (Nat.le_refl _)).below ((Below.refl _ X1).grown hgr (Nat.le_refl _) (fun j hj => by cases hj)) (Nat.le_refl _)
    have sw : w.heap.size ≤ X1.heap.size := Nat.le_trans H1.out.2.1.size b1.size
    exact ⟨k1, H1.out.2.2.1, hrg, (H1.out.2.1.trans (Fr.of_below (S := fun _ => False) b1) (fun _ e => e.elim)).trans (Fr.grownN (S := fun _ => False) hgr (fun _ e => by cases e)) (fun _ e => e.elim), fun k hk => .inl hk, ⟨fun e => by have := HH.out.1.size _ e; omega, sw⟩, H1.out.2.2.2, by simp⟩
  refine ⟨_, rfl, hK _ _ (fun hn => b1) (fun hnx => ?_)⟩
  clear hK K hnx
  try simp only [Act.put, List.setIfInBounds_toArray, List.set_cons_zero, List.set_cons_succ]
  refine Ht.step (i := 6) ⟨some 33, _, _, _, _, _⟩ rfl (by kernel_rfl) (by rfl) (fun K hK => ?_)
  go_simp
  refine hK _ _ (fun hn => absurd rfl hn) (fun hnx => ?_)
  clear hK K hnx
  try simp only [Act.put, List.setIfInBounds_toArray, List.set_cons_zero, List.set_cons_succ]
  refine done (by kernel_rfl) ?_
  obtain ⟨r, hr⟩ : ∃ r, r = X1.heap.size := ⟨_, rfl⟩
  rw [← hr] at hw0 ⊢
  have HW0 := Lib.hid hw0
  clear hw0 hrun hrg hgr hsz b1 hx1 hr hset hcall cc ci hS0 H1
  go_wp2_with fail
  try go_frame
  go_loopw [4] (fun _ wr => ∃ es cnt O' rv' F' n' rest', Wj T O w wb fb ns R 109 cb nx s x (ns.length - n + (i ++ [x]).length) r wr es cnt O' rv' F' n' rest') (fun _ wr => wr.rangeLeft (nx x) r)
  case atStart => exact ⟨_, _, _, _, _, _, _, HW0.out⟩
  case round =>
    obtain ⟨es, cnt, O', rv', F', n', rest', p⟩ := hrel
    have HP := Lib.hid p
    have hrg := p.rg
    have HL := Lib.hid p.rg.left_eq
    clear p
    go_wp2_with (first
      | (at_next; refine Mv.wpList_nextQ kindS _ rfl _ rfl (nx x) r _ es cnt rfl hrg ?_ ?_)
      | go_in)
    · intro hdone
      have HD := Lib.hid hdone
      clear hdone hrg
      go_wp2_with fail
      go_end0
      have p := HP.out
      refine ⟨by simp, _, _, _, _, _, p.mem, p.wj.done fun y hy => HD.out y ?_ (by rw [sf_some]; exact hy), p.fr, p.new, p.ms⟩
      exact p.mem.nxt.ok y (p.mem.nxt.edge _ _ hy)
    · rintro ⟨y, v, w1, cnt1, hwy, hfy, hny, hrg1, hlt1, hg1, hs1⟩ hen
      dsimp only at hen ⊢
      have hRy : R x y = true := by
        have h1 := hfy
        unfold sf at h1
        by_cases e : R x y = true
        · exact e
        · rw [if_neg e] at h1; cases h1
      have p := HP.out
      have hrO : ∀ k, T k ∨ O' k → k ≠ r := fun k hk e => by
        rcases hk with hk | hk
        · have h1 := HH.out.1.nxt.size k hk; have h2 := p.nr.2; omega
        · exact p.nr.1 (e ▸ hk)
      have m1 := p.mem.fr (Fr.grown (S := fun k => k = r) hg1 (.inl rfl)) hrO
      have hyn : y ∈ ns := m1.nxt.edge _ _ hRy
      have bA := below_new w1 (.cells #[kv y.1, .bool y.2] 115)
      have cA := cell_id w1 y
      have m2 := m1.below bA (Nat.le_refl _)
      have rg2 := hrg1.kept (Y := w1.alloc (.cells #[kv y.1, .bool y.2] 115)) (bA.block _ (m1.nxt.size _ p.tx)) (bA.block _ hrg1.lt)
      have f2 : Fr O w (w1.alloc (.cells #[kv y.1, .bool y.2] 115)) := (p.fr.trans (Fr.grown (S := fun k => k = r) hg1 (.inl rfl)) (fun k e => by have := p.nr.2; exact .inr (by omega))).trans (Fr.of_below (S := fun _ => False) bA) (fun _ e => e.elim)
      have HY := Lib.hid (And.intro m2 (And.intro rg2 (And.intro f2 (And.intro hRy (And.intro hyn (And.intro hlt1 (And.intro hrO hwy)))))))
      have hwr := whas_any m2 y hwy
      have HWs := Lib.hid hg1.size
      clear m1 m2 rg2 f2 hRy hyn hrg1 hlt1 hg1 hs1 hfy hny hwy hrg p hrO bA
      unfold ek kv at hen
      unfold ek kv
      unfold kv at cA
      go_wp2_with fail
      refine hwr.mono ?_
      rintro e W3 ⟨rfl, hb3⟩
      obtain ⟨J, hJ⟩ : ∃ J, J = w1.heap.size := ⟨_, rfl⟩
      have HJO : ∀ j, j = J → ¬ (T j ∨ O' j) := fun j e h => by
        rw [e, hJ] at h
        have h1 := HP.out.mem.lt h
        have h2 := HY.out.2.2.1.size
        have h3 : wr.heap.size ≤ w1.heap.size := HWs.out
        omega
      have bX : Below (w1.alloc (.cells #[kv y.1, .bool y.2] 115)).heap.size (w1.alloc (.cells #[kv y.1, .bool y.2] 115)) W3 := hb3
      have m3 := HY.out.1.below hb3 (Nat.le_refl _)
      have rg3 := HY.out.2.1.kept (Y := W3) (hb3.block _ (HY.out.1.nxt.size _ HP.out.tx)) (hb3.block _ HY.out.2.1.lt)
      have f3 : Fr O w W3 := HY.out.2.2.1.trans (Fr.of_below (S := fun _ => False) hb3) (fun _ e => e.elim)
      have c3 : W3.cell? ⟨w1.heap.size, 0, none⟩ = some (.string ⟨y.1.toArray⟩) ∧ W3.cell? ⟨w1.heap.size, 1, none⟩ = some (.bool y.2) := ⟨bc hb3 cA.1, bc hb3 cA.2⟩
      have HZ := Lib.hid (And.intro m3 (And.intro rg3 f3))
      clear hb3 bX cA hwr hen
      rw [← hJ] at c3 ⊢
      clear hJ
      by_cases hF : F' y = true
      · have HF := Lib.hid hF
        rw [hF]
        clear hF m3 rg3 f3 c3
        go_wp2_with fail
        go_roundw
        case rel =>
          have p := HP.out
          exact ⟨_, _, _, _, _, _, _, HZ.out.1, p.wj.old HF.out, HZ.out.2.1, HZ.out.2.2, p.new, p.nr, p.tx, p.ms⟩
        case measure => rw [HZ.out.2.1.left_eq, HL.out]; exact HY.out.2.2.2.2.2.1
      · have hFf : F' y = false := by simpa using hF
        rw [hFf]
        have hn' : n' < maxLen := by have := m3.n_le; have := HH.out.2.2.1; unfold maxLen; omega
        obtain ⟨Y, hrY, hmY, gY, sY⟩ := Mv.Mp.put kindS (w := W3.drew) (m3.found.kept rfl) hn' HY.out.2.2.2.2.2.2.2 unit
        rw [sf_some, hFf] at hmY
        have gY' : W3.grownBy Y (some fb) := ⟨gY.os, gY.tape, gY.output, gY.size, gY.block⟩
        have cw := m3.cells
        obtain ⟨a', c', rfl⟩ := own_shape m3.row
        have yw : ∀ k, k < W3.heap.size → k ≠ fb → Y.heap[k]? = W3.heap[k]? := fun k hk e => gY'.block k hk (fun e2 => e (Option.some.inj e2))
        have hwbl := m3.size wb m3.ownW
        have cY2 : Y.cell? ⟨wb, 2, none⟩ = some (.slice a' rest'.length c') := by
          have e1 := yw wb hwbl (m3.found.ne m3.obj).symm
          have h2 := cw.2.2
          unfold World.cell? at h2 ⊢
          rw [e1]; exact h2
        have hJl := World.block_lt_of_cell? _ _ c3.1
        have hJf : J ≠ fb := fun e => by
          obtain ⟨es2, cl2, h2⟩ := m3.found.obj
          have h3 := c3.1
          unfold World.cell? at h3
          rw [e, h2] at h3
          simp at h3
        have cYJ : Y.cell? ⟨J, 0, none⟩ = some (.string ⟨y.1.toArray⟩) ∧ Y.cell? ⟨J, 1, none⟩ = some (.bool y.2) := by
          have e1 := yw J hJl hJf
          have h1 := c3.1
          have h2 := c3.2
          unfold World.cell? at h1 h2 ⊢
          rw [e1]; exact ⟨h1, h2⟩
        have hNw : ¬ (Value.slice a' rest'.length c').ownBlock = some wb := fun e => by
          obtain ⟨h0, h1 | ⟨g2, cap2, cur2, h2, _, hg2, _⟩⟩ := m3.row
          · rw [h1.1] at e; cases e
          · rw [h2] at e
            cases e
            have h8 := hg2.symm.trans m3.obj
            exact absurd (Obj.cells.inj (Option.some.inj h8)).2.1 (by decide)
        have hNJ : ¬ (Value.slice a' rest'.length c').ownBlock = some J := fun e => HJO J rfl (.inr (m3.ownR J e))
        have HF := Lib.hid (And.intro hFf (And.intro hmY (And.intro gY' (And.intro sY (And.intro hwbl (m3.row))))))
        have cw1 := cw.2.1
        clear hF hFf hmY gY gY' sY yw hJl hJf hn' m3 rg3 f3 cw hwbl
        obtain ⟨L', hL'⟩ : ∃ L, L = rest'.length := ⟨_, rfl⟩
        rw [← hL'] at cY2 hNw hNJ
        unfold ek kv unit at hrY
        have HLL := Lib.hid hL'
        clear hL'
        go_wp2_with fail
  
        refine begin' 6 (fun Z => Below W3.heap.size W3 Z) hmix ((Below.refl _ W3).drew) (fun hS0 => ?_)
        refine Ht.takeD 8 (i := 0) ⟨some 42, _, _, _, _, _⟩ (.pointer (some ⟨wb, 0, none⟩)) rfl (by kernel_rfl) (by kernel_rfl) (by decide) (by kernel_rfl) (by kernel_rfl) (by kernel_rfl) hS0 (Or.inl ⟨by rfl, by (intro X hX; go_simp)⟩) ?_
        simp only [Act.put, List.setIfInBounds_toArray, List.set_cons_zero, List.set_cons_succ]
        refine Ht.takeD 8 (i := 1) ⟨some 43, _, _, _, _, _⟩ (.pointer (some ⟨wb, 0, none⟩)) rfl (by kernel_rfl) (by kernel_rfl) (by decide) (by kernel_rfl) (by kernel_rfl) (by kernel_rfl) hS0 (Or.inl ⟨by rfl, by (intro X hX; go_simp)⟩) ?_
        simp only [Act.put, List.setIfInBounds_toArray, List.set_cons_zero, List.set_cons_succ]
        refine Ht.takeD 8 (i := 2) ⟨some 44, _, _, _, _, _⟩ (.pointer (some ⟨wb, 1, none⟩)) rfl (by kernel_rfl) (by kernel_rfl) (by decide) (by kernel_rfl) (by kernel_rfl) (by kernel_rfl) hS0 (Or.inl ⟨by rfl, by (intro X hX; go_simp)⟩) ?_
        simp only [Act.put, List.setIfInBounds_toArray, List.set_cons_zero, List.set_cons_succ]
        refine Ht.takeD 8 (i := 3) ⟨some 45, _, _, _, _, _⟩ (.map (some fb)) rfl (by kernel_rfl) (by kernel_rfl) (by decide) (by kernel_rfl) (by kernel_rfl) (by kernel_rfl) hS0 (Or.inl ⟨by rfl, by (intro X hX; have := bc hX cw1; go_simp)⟩) ?_
        simp only [Act.put, List.setIfInBounds_toArray, List.set_cons_zero, List.set_cons_succ]
        refine Ht.takeD 8 (i := 4) ⟨some 46, _, _, _, _, _⟩ (.agg #[.string ⟨y.1.toArray⟩, .bool y.2]) rfl (by kernel_rfl) (by kernel_rfl) (by decide) (by kernel_rfl) (by kernel_rfl) (by kernel_rfl) hS0 (Or.inl ⟨by rfl, by (intro X hX; have := And.intro (bc hX c3.1) (bc hX c3.2); go_simp)⟩) ?_
        simp only [Act.put, List.setIfInBounds_toArray, List.set_cons_zero, List.set_cons_succ]
        refine Ht.takeD 8 (i := 5) ⟨some 47, _, _, _, _, _⟩ (.agg #[]) rfl (by kernel_rfl) (by kernel_rfl) (by decide) (by kernel_rfl) (by kernel_rfl) (by kernel_rfl) hS0 (Or.inl ⟨by rfl, by (intro X hX; go_simp)⟩) ?_
        simp only [Act.put, List.setIfInBounds_toArray, List.set_cons_zero, List.set_cons_succ]
        refine Ht.step (i := 6) ⟨none, _, _, _, _, _⟩ rfl (by kernel_rfl) (by rfl) (fun K hK => ?_)
        go_simp
        refine hK _ _ (fun hn => absurd rfl hn) (fun hnx => ?_)
        clear hK K hnx
        try simp only [Act.put, List.setIfInBounds_toArray, List.set_cons_zero, List.set_cons_succ]
        refine done (by kernel_rfl) ?_
        clear hS0 hrY
        go_wp2_with fail
        have m3 := HZ.out.1
        clear c3 cw1
        refine begin' 10 (fun Z => Fr (fun k => (Value.slice a' L' c').ownBlock = some k) Y Z) hmix (Fr.refl _ Y).drew (fun hS0 => ?_)
        refine Ht.takeD 8 (i := 0) ⟨some 48, _, _, _, _, _⟩ (.pointer (some ⟨wb, 0, none⟩)) rfl (by kernel_rfl) (by kernel_rfl) (by decide) (by kernel_rfl) (by kernel_rfl) (by kernel_rfl) hS0 (Or.inl ⟨by rfl, by (intro X hX; go_simp)⟩) ?_
        simp only [Act.put, List.setIfInBounds_toArray, List.set_cons_zero, List.set_cons_succ]
        refine Ht.takeD 8 (i := 1) ⟨some 49, _, _, _, _, _⟩ (.pointer (some ⟨wb, 0, none⟩)) rfl (by kernel_rfl) (by kernel_rfl) (by decide) (by kernel_rfl) (by kernel_rfl) (by kernel_rfl) hS0 (Or.inl ⟨by rfl, by (intro X hX; go_simp)⟩) ?_
        simp only [Act.put, List.setIfInBounds_toArray, List.set_cons_zero, List.set_cons_succ]
        refine Ht.takeD 8 (i := 2) ⟨some 50, _, _, _, _, _⟩ (.pointer (some ⟨wb, 0, none⟩)) rfl (by kernel_rfl) (by kernel_rfl) (by decide) (by kernel_rfl) (by kernel_rfl) (by kernel_rfl) hS0 (Or.inl ⟨by rfl, by (intro X hX; go_simp)⟩) ?_
        simp only [Act.put, List.setIfInBounds_toArray, List.set_cons_zero, List.set_cons_succ]
        refine Ht.takeD 8 (i := 3) ⟨some 51, _, _, _, _, _⟩ (.pointer (some ⟨wb, 2, none⟩)) rfl (by kernel_rfl) (by kernel_rfl) (by decide) (by kernel_rfl) (by kernel_rfl) (by kernel_rfl) hS0 (Or.inl ⟨by rfl, by (intro X hX; go_simp)⟩) ?_
        simp only [Act.put, List.setIfInBounds_toArray, List.set_cons_zero, List.set_cons_succ]
        refine Ht.takeD 8 (i := 4) ⟨some 52, _, _, _, _, _⟩ (.slice a' L' c') rfl (by kernel_rfl) (by kernel_rfl) (by decide) (by kernel_rfl) (by kernel_rfl) (by kernel_rfl) hS0 (Or.inl ⟨by rfl, by (intro X hX; have := hX.cell cY2 hNw; go_simp)⟩) ?_
        simp only [Act.put, List.setIfInBounds_toArray, List.set_cons_zero, List.set_cons_succ]
        refine Ht.takeD 8 (i := 5) ⟨some 53, _, _, _, _, _⟩ (.agg #[.string ⟨y.1.toArray⟩, .bool y.2]) rfl (by kernel_rfl) (by kernel_rfl) (by decide) (by kernel_rfl) (by kernel_rfl) (by kernel_rfl) hS0 (Or.inl ⟨by rfl, by (intro X hX; have := And.intro (hX.cell cYJ.1 hNJ) (hX.cell cYJ.2 hNJ); go_simp)⟩) ?_
        simp only [Act.put, List.setIfInBounds_toArray, List.set_cons_zero, List.set_cons_succ]
        obtain ⟨hFf, hmY, gY', sY, hwbl, hrow3⟩ := HF.out
        rw [if_neg (by simp)] at hmY
        have bU : Below Y.heap.size Y (Y.drew.alloc (.cells #[.string ⟨y.1.toArray⟩, .bool y.2] 115)) := (Below.refl _ Y).drew.alloc (Nat.le_refl _) _
        have cU := cell_id Y.drew y
        unfold kv at cU
        obtain ⟨U, hU⟩ : ∃ U, U = (Y.drew.alloc (.cells #[.string ⟨y.1.toArray⟩, .bool y.2] 115)) := ⟨_, rfl⟩
        rw [← hU] at bU cU
        have hv0 : U.ownsRow 0 115 2 (.slice a' L' c') rest'.length (rc rest') := by
          rw [HLL.out]
          refine own_kept hrow3 fun b hb => ?_
          have hO : O' b := m3.ownR b (by rw [HLL.out] at hNw; exact hb)
          have hbl := m3.size b hO
          have hbf : b ≠ fb := fun e => by
            obtain ⟨h0, h1 | ⟨g2, cap2, cur2, h2, _, hg2, _⟩⟩ := hrow3
            · rw [h1.1] at hb; cases hb
            · rw [h2] at hb
              cases hb
              exact m3.found.ne hg2 e.symm
          exact (bU.block b (Nat.lt_of_lt_of_le hbl gY'.size)).trans (gY'.block b hbl (fun e => hbf (Option.some.inj e)))
        have hlen : rest'.length ≤ 1000000 := by have := m3.len; have := m3.n_le; have := HH.out.2.2.1; omega
        obtain ⟨v9, w9, hra, hv9, gZ, hb9⟩ := push_id y hv0 hlen ⟨Y.heap.size, 0, none⟩ cU 182
        obtain ⟨k2, fr2, nw2⟩ := m3.push HY.out.2.2.2.2.1 hFf gY' hmY bU hv9 (by rw [← HLL.out]; exact gZ) (by rw [← HLL.out]; exact hb9)
        have f9 : Fr (fun k => (Value.slice a' L' c').ownBlock = some k) Y w9 := (Fr.of_below bU).trans (Fr.grownN (S := fun k => (Value.slice a' L' c').ownBlock = some k) gZ (fun b e => .inl e)) (fun x e => .inl e)
        have hoY : Y.heap[wb]? = some (.cells #[fnv 109 cb, .map (some fb), .slice a' L' c'] 184 (0, 0)) := by
          have h1 := (gY'.block wb hwbl (fun e => m3.found.ne m3.obj (Option.some.inj e).symm)).trans m3.obj
          rw [HLL.out]; exact h1
        have ho9 : w9.heap[wb]? = some (.cells #[fnv 109 cb, .map (some fb), .slice a' L' c'] 184 (0, 0)) := (f9.block wb (Nat.lt_of_lt_of_le hwbl gY'.size) hNw).trans hoY
        have c9 : w9.cell? ⟨wb, 2, none⟩ = some (.slice a' L' c') := by rw [cell_of_row w9 wb 2 _ _ _ ho9]; rfl
        have z9 : w9.frozen? ⟨wb, 2, none⟩ = false := by simp [World.frozen?, ho9]
        obtain ⟨a9, d9, rfl⟩ := own_shape hv9
        obtain ⟨L9, hL9⟩ : ∃ L, L = (rest' ++ [y]).length := ⟨_, rfl⟩
        rw [← hL9] at hra k2 fr2 nw2
        have p := HP.out
        have rgl := HZ.out.2.1.lt
        have hK := Lib.hid (show Wj T O w wb fb ns R 109 cb nx s x (ns.length - n + (i ++ [x]).length) r (w9.setCell ⟨wb, 2, none⟩ (.slice a9 L9 d9)) (es ++ [y]) cnt1 _ _ _ _ _ from
          ⟨k2, by
            have e : (fun z => z = y ∨ F' z = true) = (fun z => (decide (z = y) || F' z) = true) := by funext z; simp
            rw [← e]; exact p.wj.new HY.out.2.2.2.1, HZ.out.2.1.kept (fr2.block _ (m3.nxt.size _ p.tx) (m3.dis _ p.tx)) (fr2.block _ rgl p.nr.1), HZ.out.2.2.trans fr2 p.new, fun k hk => (nw2 k hk).elim (p.new k) (fun e => .inr (Nat.le_trans HZ.out.2.2.size e)),
            ⟨fun e => (nw2 r e).elim p.nr.1 (by omega), p.nr.2⟩, p.tx, by
              have h1 := k2.n_le
              have h2 := p.ms
              simp at h2 ⊢
              omega⟩)
        clear hL9 hv9 hb9 cU k2 fr2 nw2 ho9 hoY hv0 hlen hFf hmY gY' sY hwbl hrow3 m3 rgl p
        refine Ht.step (i := 6) ⟨some 54, _, _, _, _, _⟩ rfl (by kernel_rfl) (by rfl) (fun K hK => ?_)
        go_simp
        refine hK _ _ (fun hn => (by rw [hU] at bU; exact Fr.of_below bU)) (fun hnx => ?_)
        clear hK K hnx
        try simp only [Act.put, List.setIfInBounds_toArray, List.set_cons_zero, List.set_cons_succ]
        refine Ht.step (i := 7) ⟨some 55, _, _, _, _, _⟩ rfl (by kernel_rfl) (by rfl) (fun K hK => ?_)
        change Oper.wp _ _ _ (Y.drew.alloc (.cells #[.string ⟨y.1.toArray⟩, .bool y.2] 115)) _ _
        rw [← hU]
        clear hU
        refine wp_app _ _ rfl rfl rfl hra ?_
        refine hK _ _ (fun hn => f9) (fun hnx => ?_)
        clear hK K hnx
        try simp only [Act.put, List.setIfInBounds_toArray, List.set_cons_zero, List.set_cons_succ]
        refine Ht.takeD 8 (i := 8) ⟨some 56, _, _, _, _, _⟩ (.pointer (some ⟨wb, 0, none⟩)) rfl (by kernel_rfl) (by kernel_rfl) (by decide) (by kernel_rfl) (by kernel_rfl) (by kernel_rfl) f9 (Or.inl ⟨by rfl, by (intro X hX; go_simp)⟩) ?_
        simp only [Act.put, List.setIfInBounds_toArray, List.set_cons_zero, List.set_cons_succ]
        refine Ht.takeD 8 (i := 9) ⟨some 57, _, _, _, _, _⟩ (.pointer (some ⟨wb, 2, none⟩)) rfl (by kernel_rfl) (by kernel_rfl) (by decide) (by kernel_rfl) (by kernel_rfl) (by kernel_rfl) f9 (Or.inl ⟨by rfl, by (intro X hX; go_simp)⟩) ?_
        simp only [Act.put, List.setIfInBounds_toArray, List.set_cons_zero, List.set_cons_succ]
        refine Ht.step (i := 10) ⟨none, _, _, _, _, _⟩ rfl (by kernel_rfl) (by rfl) (fun K hK => ?_)
        go_simp
        refine hK _ _ (fun hn => absurd rfl hn) (fun hnx => ?_)
        clear hK K hnx
        try simp only [Act.put, List.setIfInBounds_toArray, List.set_cons_zero, List.set_cons_succ]
        refine done (by kernel_rfl) ?_
        clear hS0 hra c9 z9 f9 gZ bU
        go_wp2_with fail
        go_roundw
        case rel => exact ⟨_, _, _, _, _, _, _, hK.out⟩
        case measure => rw [hK.out.rg.left_eq, HL.out]; exact HY.out.2.2.2.2.2.1
theorem step_any (h : Wk T O w wb fb rv ns R fid cb nx F n rest) {s : Id} (hw : WI R s (fun x => F x = true) rest) (hne : rest ≠ []) (hN : ns.length ≤ 900000) : Calls Tryz.prog 96 #[.pointer (some ⟨wb, 0, none⟩)] w fun e w' => e = .returned (.tuple #[]) ∧ Stepped T O w w' wb fb ns R fid cb nx s (ns.length - n + rest.length) := by
  rcases h.nxt.fn with rfl | rfl
  · exact step_up h hw hne hN
  · exact step_down h hw hne hN
end
end Go.Proofs.YtcodjknhnhdkfaaGreatDoor.DgB
namespace Go.Proofs.YtcodjknhnhdkfaaGreatDoor.DgB
open Go.RowKit Go.Lib Hp Mv Dg Ht Go.WideElems Go.ChangeMaps Go.MapKept
set_option linter.unusedVariables false
set_option maxRecDepth 20000
attribute [local go_sem] Oper.semAt_some
section
variable {T O : Nat → Prop} {w : World} {wb fb : Nat} {rv : Value} {ns : List Id} {R : Id → Id → Bool} {fid : FuncId} {cb : Nat} {nx : Id → Nat} {F : Id → Bool} {n : Nat} {rest : List Id}
/-- a walk on its way since a world -/
structure Way (T O : Nat → Prop) (w : World) (wb fb : Nat) (ns : List Id) (R : Id → Id → Bool) (fid : FuncId) (cb : Nat) (nx : Id → Nat) (s : Id) (X : World) (O' : Nat → Prop) (rv' : Value) (F' : Id → Bool) (n' : Nat) (rest' : List Id) : Prop where
  mem : Wk T O' X wb fb rv' ns R fid cb nx F' n' rest'
  wi : WI R s (fun x => F' x = true) rest'
  fr : Fr O w X
  new : ∀ k, O' k → O k ∨ w.heap.size ≤ k
theorem Way.step {s : Id} {X Y : World} {O' : Nat → Prop} {rv' : Value} {F' : Id → Bool} {n' : Nat} {rest' : List Id} {m : Nat} (p : Way T O w wb fb ns R fid cb nx s X O' rv' F' n' rest') (h : Stepped T O' X Y wb fb ns R fid cb nx s m) :
    ∃ O2 rv2 F2 n2 rest2, Way T O w wb fb ns R fid cb nx s Y O2 rv2 F2 n2 rest2 ∧ ns.length - n2 + rest2.length < m ∧ Fr O' X Y ∧ (∀ k, O2 k → O' k ∨ X.heap.size ≤ k) := by
  obtain ⟨O2, rv2, F2, n2, rest2, h1, h2, h3, h4, h5⟩ := h
  exact ⟨O2, rv2, F2, n2, rest2, ⟨h1, h2, p.fr.trans h3 p.new, fun k hk => (h4 k hk).elim (p.new k) (fun e => .inr (Nat.le_trans p.fr.size e))⟩, h5, h3, h4⟩
theorem Way.fr' {s : Id} {X Y : World} {O' Z : Nat → Prop} {rv' : Value} {F' : Id → Bool} {n' : Nat} {rest' : List Id} (p : Way T O w wb fb ns R fid cb nx s X O' rv' F' n' rest') (h : Fr Z X Y) (hd : ∀ k, T k ∨ O' k → ¬ Z k) : Wk T O' Y wb fb rv' ns R fid cb nx F' n' rest' := p.mem.fr h hd
/-- a measure, as a number -/
def lenOf (w : World) (wb : Nat) : Nat := match w.cell? ⟨wb, 2, none⟩ with | some (.slice _ n _) => n | _ => 0
def cntOf (w : World) (fb : Nat) : Nat := match w.heap[fb]? with | some (.map es _) => es.size | _ => 0
theorem Wk.lenOf (h : Wk T O w wb fb rv ns R fid cb nx F n rest) : lenOf w wb = rest.length := by
  obtain ⟨a, c, rfl⟩ := own_shape h.row
  unfold DgB.lenOf; rw [h.cells.2.2]
theorem Wk.cntOf (h : Wk T O w wb fb rv ns R fid cb nx F n rest) : cntOf w fb = n := by
  obtain ⟨D, ⟨es, clock, hb, hF, hsz, rfl⟩, hn, hD⟩ := h.found
  unfold DgB.cntOf; rw [hb]
  simp only
  rw [← hn]; simp [Maps.size, length_sorted]
end
end Go.Proofs.YtcodjknhnhdkfaaGreatDoor.DgB
namespace Go.Proofs.YtcodjknhnhdkfaaGreatDoor.DgB
open Go.RowKit Go.Lib Hp Mv Dg Ht
set_option linter.unusedVariables false
set_option maxRecDepth 20000
attribute [local go_sem] Oper.semAt_some
theorem WI.of_start (R : Id → Id → Bool) (s : Id) : WI R s (fun z => (fun _ => false : Id → Bool) z = true) [s] :=
  ⟨fun y hy => by simp at hy, fun y hy => .inl (by simpa using hy), fun y hy hn z hz => by
    have := (WI.start R s).closed y (hy.imp_right fun e => by simp at e) hn z hz
    exact this.elim⟩
/-- two walks beside each other -/
structure Two (w : World) (ns : List Id) (E : Id → Id → Bool) (x o : Id) (wbd fbd cbd : Nat) (nxd : Id → Nat) (Td : Nat → Prop) (wbu fbu cbu : Nat) (nxu : Id → Nat) (Tu : Nat → Prop) (X : World)
    (Od : Nat → Prop) (rvd : Value) (Fd : Id → Bool) (nd : Nat) (rd : List Id) (Ou : Nat → Prop) (rvu : Value) (Fu : Id → Bool) (nu : Nat) (ru : List Id) : Prop where
  d : Wk Td Od X wbd fbd rvd ns E 109 cbd nxd Fd nd rd
  dw : WI E x (fun z => Fd z = true) rd
  u : Wk Tu Ou X wbu fbu rvu ns (fun a b => E b a) 110 cbu nxu Fu nu ru
  uw : WI (fun a b => E b a) o (fun z => Fu z = true) ru
  below : Below w.heap.size w X
  ownD : ∀ k, Od k → w.heap.size ≤ k
  ownU : ∀ k, Ou k → w.heap.size ≤ k
  dis : ∀ k, Od k → ¬ (Tu k ∨ Ou k)
  dis' : ∀ k, Ou k → ¬ (Td k ∨ Od k)
section
variable {w : World} {ns : List Id} {E : Id → Id → Bool} {x o : Id} {wbd fbd cbd : Nat} {nxd : Id → Nat} {Td : Nat → Prop} {wbu fbu cbu : Nat} {nxu : Id → Nat} {Tu : Nat → Prop} {X : World}
    {Od : Nat → Prop} {rvd : Value} {Fd : Id → Bool} {nd : Nat} {rd : List Id} {Ou : Nat → Prop} {rvu : Value} {Fu : Id → Bool} {nu : Nat} {ru : List Id}
theorem Two.go {Y : World} (h : Two w ns E x o wbd fbd cbd nxd Td wbu fbu cbu nxu Tu X Od rvd Fd nd rd Ou rvu Fu nu ru) (b : Below X.heap.size X Y) : Two w ns E x o wbd fbd cbd nxd Td wbu fbu cbu nxu Tu Y Od rvd Fd nd rd Ou rvu Fu nu ru :=
  ⟨h.d.below b (Nat.le_refl _), h.dw, h.u.below b (Nat.le_refl _), h.uw, h.below.trans (b.mono h.below.size), h.ownD, h.ownU, h.dis, h.dis'⟩
theorem below_fr {O : Nat → Prop} {Y : World} (hb : Below w.heap.size w X) (f : Fr O X Y) (ho : ∀ k, O k → w.heap.size ≤ k) : Below w.heap.size w Y :=
  ⟨f.os.trans hb.os, f.tape.trans hb.tape, f.output.trans hb.output, Nat.le_trans hb.size f.size, fun k hk => (f.block k (Nat.lt_of_lt_of_le hk hb.size) (fun e => by have := ho k e; omega)).trans (hb.block k hk)⟩
theorem Two.stepD {Y : World} {m : Nat} (h : Two w ns E x o wbd fbd cbd nxd Td wbu fbu cbu nxu Tu X Od rvd Fd nd rd Ou rvu Fu nu ru) (st : Stepped Td Od X Y wbd fbd ns E 109 cbd nxd x m) :
    ∃ Od rvd Fd nd rd, Two w ns E x o wbd fbd cbd nxd Td wbu fbu cbu nxu Tu Y Od rvd Fd nd rd Ou rvu Fu nu ru ∧ ns.length - nd + rd.length < m := by
  obtain ⟨O2, rv2, F2, n2, rest2, h1, h2, h3, h4, h5⟩ := st
  refine ⟨O2, rv2, F2, n2, rest2, ⟨h1, h2, h.u.fr h3 (fun k hk e => h.dis k e hk), h.uw, below_fr h.below h3 h.ownD, fun k hk => (h4 k hk).elim (h.ownD k) (fun e => Nat.le_trans h.below.size e), h.ownU, fun k hk e => ?_, fun k hk e => ?_⟩, h5⟩
  · rcases h4 k hk with hk | hk
    · exact h.dis k hk e
    · have := h.u.lt e; omega
  · rcases e with e | e
    · exact h.dis' k hk (.inl e)
    · rcases h4 k e with e | e
      · exact h.dis' k hk (.inr e)
      · have := h.u.size k hk; omega
theorem Two.stepU {Y : World} {m : Nat} (h : Two w ns E x o wbd fbd cbd nxd Td wbu fbu cbu nxu Tu X Od rvd Fd nd rd Ou rvu Fu nu ru) (st : Stepped Tu Ou X Y wbu fbu ns (fun a b => E b a) 110 cbu nxu o m) :
    ∃ Ou rvu Fu nu ru, Two w ns E x o wbd fbd cbd nxd Td wbu fbu cbu nxu Tu Y Od rvd Fd nd rd Ou rvu Fu nu ru ∧ ns.length - nu + ru.length < m := by
  obtain ⟨O2, rv2, F2, n2, rest2, h1, h2, h3, h4, h5⟩ := st
  refine ⟨O2, rv2, F2, n2, rest2, ⟨h.d.fr h3 (fun k hk e => h.dis' k e hk), h.dw, h1, h2, below_fr h.below h3 h.ownU, h.ownD, fun k hk => (h4 k hk).elim (h.ownU k) (fun e => Nat.le_trans h.below.size e), fun k hk e => ?_, fun k hk e => ?_⟩, h5⟩
  · rcases e with e | e
    · exact h.dis k hk (.inl e)
    · rcases h4 k e with e | e
      · exact h.dis k hk (.inr e)
      · have := h.d.size k hk; omega
  · rcases h4 k hk with hk | hk
    · exact h.dis' k hk e
    · have := h.d.lt e; omega
end
section
variable {S : Nat → Prop} {w : World} {gb : Nat} {mv : Option Nat} {ns : List Id} {E : Id → Id → Bool} {nb ob ub : Id → Nat}
set_option maxHeartbeats 4000000 in
theorem stands_any (q : Gq S w gb mv ns E nb ob ub) (x o : Id) (hx : x ∈ ns) (ho : o ∈ ns) (hN : ns.length ≤ 900000) : Calls Tryz.prog 75 #[.pointer (some ⟨gb, 0, none⟩), ek x, ek o] w fun e w' => (∃ b, e = .returned (.bool b) ∧ (b = true ↔ Re E x o)) ∧ Below w.heap.size w w' := by
  obtain ⟨V1, hV1⟩ : ∃ V, V = w.alloc (.cells #[kv x.1, .bool x.2] 115) := ⟨_, rfl⟩
  obtain ⟨V, hV⟩ : ∃ V, V = V1.alloc (.cells #[kv o.1, .bool o.2] 115) := ⟨_, rfl⟩
  have hb1 : Below w.heap.size w V1 := by rw [hV1]; exact (Below.refl _ w).alloc (Nat.le_refl _) _
  have hb2 : Below V1.heap.size V1 V := by rw [hV]; exact (Below.refl _ V1).alloc (Nat.le_refl _) _
  have hb : Below w.heap.size w V := hb1.trans (hb2.mono hb1.size)
  have q2 := q.below hb (Nat.le_refl _)
  have cx : V.cell? ⟨w.heap.size, 0, none⟩ = some (kv x.1) ∧ V.cell? ⟨w.heap.size, 1, none⟩ = some (.bool x.2) := by
    have h := cell_id w x
    rw [← hV1] at h
    exact ⟨bc hb2 h.1, bc hb2 h.2⟩
  have co : V.cell? ⟨V1.heap.size, 0, none⟩ = some (kv o.1) ∧ V.cell? ⟨V1.heap.size, 1, none⟩ = some (.bool o.2) := by rw [hV]; exact cell_id V1 o
  have hz : V1.heap.size = w.heap.size + 1 := by rw [hV1]; simp
  rw [hz] at co
  have HQ := Lib.hid (And.intro q2 (And.intro hx (And.intro ho (And.intro hN hb))))
  clear q q2 hx ho hN hb hb1 hb2 hz
  have hmix : Tryz.prog.follows .mixedOrders = true := by kernel_rfl
  unfold ek
  have HCx := Lib.hid (And.intro cx co)
  unfold kv at cx co ⊢
  go_enter Tryz.func75, Tryz.ntmps75
  go_wp2_with fail
  unfold kv at hV1 hV
  rw [← hV1]
  rw [← hV]
  clear hV hV1
  refine begin' 7 (fun Z => Below V.heap.size V Z) hmix ((Below.refl _ V).drew) (fun hS0 => ?_)
  refine Ht.takeD 8 (i := 0) ⟨some 9, _, _, _, _, _⟩ (.pointer (some ⟨gb, 0, none⟩)) rfl (by kernel_rfl) (by kernel_rfl) (by decide) (by kernel_rfl) (by kernel_rfl) (by kernel_rfl) hS0 (Or.inl ⟨by rfl, by (intro X hX; go_simp)⟩) ?_
  simp only [Act.put, List.setIfInBounds_toArray, List.set_cons_zero, List.set_cons_succ]
  refine Ht.takeD 8 (i := 1) ⟨some 10, _, _, _, _, _⟩ (.agg #[.string ⟨x.1.toArray⟩, .bool x.2]) rfl (by kernel_rfl) (by kernel_rfl) (by decide) (by kernel_rfl) (by kernel_rfl) (by kernel_rfl) hS0 (Or.inl ⟨by rfl, by (intro X hX; have := And.intro (bc hX cx.1) (bc hX cx.2); go_simp)⟩) ?_
  simp only [Act.put, List.setIfInBounds_toArray, List.set_cons_zero, List.set_cons_succ]
  refine Ht.takeD 8 (i := 3) ⟨some 12, _, _, _, _, _⟩ (.pointer (some ⟨gb, 0, none⟩)) rfl (by kernel_rfl) (by kernel_rfl) (by decide) (by kernel_rfl) (by kernel_rfl) (by kernel_rfl) hS0 (Or.inl ⟨by rfl, by (intro X hX; go_simp)⟩) ?_
  simp only [Act.put, List.setIfInBounds_toArray, List.set_cons_zero, List.set_cons_succ]
  refine Ht.takeD 8 (i := 4) ⟨some 13, _, _, _, _, _⟩ (.agg #[.string ⟨o.1.toArray⟩, .bool o.2]) rfl (by kernel_rfl) (by kernel_rfl) (by decide) (by kernel_rfl) (by kernel_rfl) (by kernel_rfl) hS0 (Or.inl ⟨by rfl, by (intro X hX; have := And.intro (bc hX co.1) (bc hX co.2); go_simp)⟩) ?_
  simp only [Act.put, List.setIfInBounds_toArray, List.set_cons_zero, List.set_cons_succ]
  refine Ht.step (i := 2) ⟨some 11, _, _, _, _, _⟩ rfl (by kernel_rfl) (by rfl) (fun K hK => ?_)
  refine Ht.enter 92 #[.pointer (some ⟨gb, 0, none⟩), .agg #[.string ⟨x.1.toArray⟩, .bool x.2]] (by have hen := fun args w => enters_of (P := Tryz.prog) Tryz.func92 (by kernel_rfl) rfl args w; go_simp) (down_any (HQ.out.1.below hS0 (Nat.le_refl _)) x HQ.out.2.1) ?_
  rintro e X1 ⟨v1, rfl, wbd, fbd, rvd, cbd, Td, Od, rfl, hkd, hnd⟩
  have b1 : Below V.heap.size V X1 := hS0.trans (hnd.below.mono hS0.size)
  refine ⟨_, rfl, hK _ _ (fun hn => b1) (fun hnx => ?_)⟩
  clear hK K hnx
  try simp only [Act.put, List.setIfInBounds_toArray, List.set_cons_zero, List.set_cons_succ]
  refine Ht.step (i := 5) ⟨some 14, _, _, _, _, _⟩ rfl (by kernel_rfl) (by rfl) (fun K hK => ?_)
  refine Ht.enter 93 #[.pointer (some ⟨gb, 0, none⟩), .agg #[.string ⟨o.1.toArray⟩, .bool o.2]] (by have hen := fun args w => enters_of (P := Tryz.prog) Tryz.func93 (by kernel_rfl) rfl args w; go_simp) (up_any (HQ.out.1.below b1 (Nat.le_refl _)) o HQ.out.2.2.1) ?_
  rintro e X2 ⟨v2, rfl, wbu, fbu, rvu, cbu, Tu, Ou, rfl, hku, hnu⟩
  have b2 : Below V.heap.size V X2 := b1.trans (hnu.below.mono b1.size)
  refine ⟨_, rfl, hK _ _ (fun hn => b2) (fun hnx => ?_)⟩
  clear hK K hnx
  try simp only [Act.put, List.setIfInBounds_toArray, List.set_cons_zero, List.set_cons_succ]
  refine Ht.takeD 8 (i := 6) ⟨some 7, _, _, _, _, _⟩ (.pointer (some ⟨wbd, 0, none⟩)) rfl (by kernel_rfl) (by kernel_rfl) (by decide) (by kernel_rfl) (by kernel_rfl) (by kernel_rfl) b2 (Or.inl ⟨by rfl, by (intro X hX; go_simp)⟩) ?_
  simp only [Act.put, List.setIfInBounds_toArray, List.set_cons_zero, List.set_cons_succ]
  refine Ht.step (i := 7) ⟨some 8, _, _, _, _, _⟩ rfl (by kernel_rfl) (by rfl) (fun K hK => ?_)
  go_simp
  refine hK _ _ (fun hn => absurd rfl hn) (fun hnx => ?_)
  clear hK K hnx
  try simp only [Act.put, List.setIfInBounds_toArray, List.set_cons_zero, List.set_cons_succ]
  refine done (by kernel_rfl) ?_
  have hd0 := hnd.own
  have h2 : Two V ns E x o wbd fbd cbd ob Td wbu fbu cbu ub Tu X2 Od rvd (fun _ => false) 0 [x] Ou rvu (fun _ => false) 0 [o] := by
    have kd := hkd.below hnu.below (Nat.le_refl _)
    have sV := HQ.out.1.size
    refine ⟨kd, WI.of_start E x, hku, WI.of_start _ o, b2, hnd.own, fun k hk => Nat.le_trans b1.size (hnu.own k hk), fun k hk e => ?_, fun k hk e => ?_⟩
    · have h1 := hkd.size k hk
      have h0 := hnd.own k hk
      have h0' : V.heap.size ≤ k := h0
      rcases e with e | e
      · rcases hnu.read k e with e | e
        · have := sV k e; omega
        · omega
      · have := hnu.own k e; omega
    · have h1 := hnu.own k hk
      have := hkd.lt e
      omega
  have H2 := Lib.hid h2
  clear h2 hd0 hkd hku hnd hnu b1 b2 hS0 cx co
  go_wp2_with fail
  go_loopw [16] (fun _ wr => ∃ Od rvd Fd nd rd Ou rvu Fu nu ru, Two V ns E x o wbd fbd cbd ob Td wbu fbu cbu ub Tu wr Od rvd Fd nd rd Ou rvu Fu nu ru) (fun _ wr => (ns.length - cntOf wr fbd + lenOf wr wbd) + (ns.length - cntOf wr fbu + lenOf wr wbu))
  case atStart => exact ⟨_, _, _, _, _, _, _, _, _, _, H2.out⟩
  case round =>
    obtain ⟨Od, rvd, Fd, nd, rd, Ou, rvu, Fu, nu, ru, p⟩ := hrel
    have HP := Lib.hid p
    have he1 := ends_any p.d
    have he2 := ends_any p.u
    clear p
    go_wp2_with fail
    refine he1.mono ?_
    rintro e W1 ⟨rfl, hW1⟩
    rw [hW1]
    clear hW1 W1
    by_cases h1 : rd = []
    · subst h1
      rw [decide_eq_true rfl] at he1 ⊢
      clear he2
      have hh := whas_any HP.out.d o (HP.out.d.nxt.ok o HQ.out.2.2.1)
      have HH := Lib.hid hh
      have co : wr.cell? ⟨w.heap.size + 1, 0, none⟩ = some (.string ⟨o.1.toArray⟩) ∧ wr.cell? ⟨w.heap.size + 1, 1, none⟩ = some (.bool o.2) := ⟨bc HP.out.below HCx.out.2.1, bc HP.out.below HCx.out.2.2⟩
      clear hh
      go_wp2_with fail
      refine he1.mono ?_
      rintro e W1 ⟨rfl, hW1⟩
      rw [hW1]
      clear hW1 W1
      clear he1
      go_wp2_with fail
      refine HH.out.mono ?_
      rintro e W2 ⟨rfl, hb2⟩
      go_wp2_with fail
      go_ret
      have hW := HP.out.dw.done o
      exact ⟨⟨_, by simp, hW⟩, (HQ.out.2.2.2.2.trans (HP.out.below.mono HQ.out.2.2.2.2.size)).trans (hb2.mono (Nat.le_trans HQ.out.2.2.2.2.size HP.out.below.size))⟩
    · rw [decide_eq_false h1] at he1 ⊢
      have HR1 := Lib.hid h1
      clear h1
      go_wp2_with fail
      refine he2.mono ?_
      rintro e W1 ⟨rfl, hW1⟩
      rw [hW1]
      clear hW1 W1
      by_cases h2 : ru = []
      · subst h2
        rw [decide_eq_true rfl]
        clear he2
        have hh := whas_any HP.out.u x (HP.out.u.nxt.ok x HQ.out.2.1)
        have HH := Lib.hid hh
        have cx : wr.cell? ⟨w.heap.size, 0, none⟩ = some (.string ⟨x.1.toArray⟩) ∧ wr.cell? ⟨w.heap.size, 1, none⟩ = some (.bool x.2) := ⟨bc HP.out.below HCx.out.1.1, bc HP.out.below HCx.out.1.2⟩
        clear hh
        go_wp2_with fail
        refine he1.mono ?_
        rintro e W1 ⟨rfl, hW1⟩
        rw [hW1]
        clear hW1 W1
        clear he1
        go_wp2_with fail
        refine HH.out.mono ?_
        rintro e W2 ⟨rfl, hb2⟩
        go_wp2_with fail
        go_ret
        have hW := (HP.out.uw.done x).trans (flip_iff (R := E) (s := x) (x := o))
        exact ⟨⟨_, by simp, hW⟩, (HQ.out.2.2.2.2.trans (HP.out.below.mono HQ.out.2.2.2.2.size)).trans (hb2.mono (Nat.le_trans HQ.out.2.2.2.2.size HP.out.below.size))⟩
      · rw [decide_eq_false h2]
        have HR2 := Lib.hid h2
        clear h2 he1 he2
        have hc1 := cost_any HP.out.d HR1.out
        go_wp2_with fail
        refine hc1.mono ?_
        rintro e W1 ⟨⟨c1, rfl⟩, hb1⟩
        have p1 := HP.out.go hb1
        have hc2 := cost_any p1.u HR2.out
        have HP1 := Lib.hid p1
        clear p1 hc1 hb1
        go_wp2_with fail
        refine hc2.mono ?_
        rintro e W2 ⟨⟨c2, rfl⟩, hb2⟩
        have p2 := HP1.out.go hb2
        have HP2 := Lib.hid p2
        clear hc2 hb2 p2
        by_cases hlt : c1 < c2
        · have hs := step_any HP2.out.d HP2.out.dw HR1.out HQ.out.2.2.2.1
          go_wp2_with fail
          refine hs.mono ?_
          rintro e W3 ⟨rfl, hst⟩
          obtain ⟨Od', rvd', Fd', nd', rd', p3, hm⟩ := HP2.out.stepD hst
          have H3 := Lib.hid (And.intro p3 hm)
          clear p3 hm hst hs
          go_wp2_with fail
          go_roundw
          case rel => exact ⟨_, _, _, _, _, _, _, _, _, _, H3.out.1⟩
          case measure =>
            have := H3.out.2
            rw [H3.out.1.d.cntOf, H3.out.1.d.lenOf, H3.out.1.u.cntOf, H3.out.1.u.lenOf, HP.out.d.cntOf, HP.out.d.lenOf, HP.out.u.cntOf, HP.out.u.lenOf]; omega
        · have hs := step_any HP2.out.u HP2.out.uw HR2.out HQ.out.2.2.2.1
          go_wp2_with fail
          refine hs.mono ?_
          rintro e W3 ⟨rfl, hst⟩
          obtain ⟨Ou', rvu', Fu', nu', ru', p3, hm⟩ := HP2.out.stepU hst
          have H3 := Lib.hid (And.intro p3 hm)
          clear p3 hm hst hs
          go_wp2_with fail
          go_roundw
          case rel => exact ⟨_, _, _, _, _, _, _, _, _, _, H3.out.1⟩
          case measure =>
            have := H3.out.2
            rw [H3.out.1.d.cntOf, H3.out.1.d.lenOf, H3.out.1.u.cntOf, H3.out.1.u.lenOf, HP.out.d.cntOf, HP.out.d.lenOf, HP.out.u.cntOf, HP.out.u.lenOf]; omega
end
end Go.Proofs.YtcodjknhnhdkfaaGreatDoor.DgB
namespace Go.Proofs.YtcodjknhnhdkfaaGreatDoor.DgB
open Go.RowKit Go.Lib Hp Mv Dg Ht
set_option linter.unusedVariables false
set_option maxRecDepth 20000
attribute [local go_sem] Oper.semAt_some
theorem eql_id (x y : Id) (W : World) : (binOp .eql 115 (ek x) (ek y)).run Tryz.prog W = .ok (.bool (decide (x = y))) W := by
  obtain ⟨a, b⟩ := x
  obtain ⟨c, d⟩ := y
  unfold ek kv
  go_simp
  by_cases h1 : a = c <;> by_cases h2 : b = d <;> simp [h1, h2]
section
variable {S : Nat → Prop} {w : World} {gb : Nat} {mv : Option Nat} {ns : List Id} {E : Id → Id → Bool} {nb ob ub : Id → Nat}
/-- what Link does -/
def Linked (S : Nat → Prop) (w w' : World) (gb : Nat) (mv : Option Nat) (ns : List Id) (E : Id → Id → Bool) (nb ob ub : Id → Nat) (x o : Id) (n : Int) : Prop :=
  ∃ E', Gq S w' gb mv ns E' nb ob ub ∧ Fr S w w' ∧ ((n = 9 ∧ E' = E ∧ (x = o ∨ Re E o x)) ∨ (n = 8 ∧ E' = E ∧ ¬ (x = o ∨ Re E o x) ∧ E x o = true) ∨ (n = 0 ∧ E' = addE E x o ∧ ¬ (x = o ∨ Re E o x) ∧ E x o = false))
set_option maxHeartbeats 4000000 in
theorem link_any (q : Gq S w gb mv ns E nb ob ub) (k on : (List UInt8)) (hk : (k, false) ∈ ns) (ho : (on, false) ∈ ns) (hN : ns.length ≤ 900000) : Calls Tryz.prog 59 #[.pointer (some ⟨gb, 0, none⟩), kv k, kv on] w fun e w' => ∃ n, e = .returned (.int .i64 n) ∧ Linked S w w' gb mv ns E nb ob ub (k, false) (on, false) n := by
  have HQ := Lib.hid (And.intro q (And.intro hk (And.intro ho hN)))
  clear q hk ho hN
  have hmix : Tryz.prog.follows .mixedOrders = true := by kernel_rfl
  unfold kv
  go_enter Tryz.func59, Tryz.ntmps59
  go_wp2_with fail
  refine (idOf_any k _).mono ?_
  rintro e W1 ⟨rfl, hb1⟩
  have HB1 := Lib.hid hb1
  clear hb1
  unfold ek kv
  go_wp2_with fail
  refine (idOf_any on _).mono ?_
  rintro e W2 ⟨rfl, hb2⟩
  have HB2 := Lib.hid hb2
  clear hb2
  unfold ek kv
  go_wp2_with fail
  obtain ⟨V, hV⟩ : ∃ V, V = (W2.alloc (.cells #[.string ⟨k.toArray⟩, .bool false] 115)).alloc (.cells #[.string ⟨on.toArray⟩, .bool false] 115) := ⟨_, rfl⟩
  have hA := below_new W2 (.cells #[kv k, .bool false] 115)
  have hB := below_new (W2.alloc (.cells #[kv k, .bool false] 115)) (.cells #[kv on, .bool false] 115)
  have ck := cell_id W2 (k, false)
  have co := cell_id (W2.alloc (.cells #[kv k, .bool false] 115)) (on, false)
  have ck2 := And.intro (bc hB ck.1) (bc hB ck.2)
  rw [show (W2.alloc (.cells #[kv k, .bool false] 115)).heap.size = W2.heap.size + 1 by simp] at co
  have hbV : Below W2.heap.size W2 ((W2.alloc (.cells #[kv k, .bool false] 115)).alloc (.cells #[kv on, .bool false] 115)) := hA.trans (hB.mono hA.size)
  unfold kv at ck2 co hbV
  rw [← hV] at ck2 co hbV ⊢
  obtain ⟨N, hN⟩ : ∃ N, N = W2.heap.size := ⟨_, rfl⟩
  have hbw : Below w.heap.size w V := HB1.out.trans ((HB2.out.trans (hbV.mono HB2.out.size)).mono HB1.out.size)
  rw [← hN] at ck2 co ⊢
  have HV := Lib.hid (And.intro hbw (And.intro (HQ.out.1.below hbw (Nat.le_refl _)) (And.intro ck2 co)))
  clear hV hA hB ck hN hbV hbw
  have hh1 := has_any HV.out.2.1 (k, false) (HV.out.2.1.ok _ HQ.out.2.1).1
  rw [decide_eq_true HQ.out.2.1] at hh1
  refine hh1.mono ?_
  rintro e V1 ⟨rfl, hb1⟩
  have H1 := Lib.hid hb1
  have co1 := And.intro (bc hb1 co.1) (bc hb1 co.2)
  have q1 := HV.out.2.1.below hb1 (Nat.le_refl _)
  have hh2 := has_any q1 (on, false) (HV.out.2.1.ok _ HQ.out.2.2.1).1
  rw [decide_eq_true HQ.out.2.2.1] at hh2
  clear hb1 hh1 q1 ck2 co
  go_wp2_with fail
  refine hh2.mono ?_
  rintro e V2 ⟨rfl, hb2⟩
  have hb2' : Below V.heap.size V V2 := H1.out.trans (hb2.mono H1.out.size)
  have H2 := Lib.hid hb2'
  have ck := And.intro (bc hb2' HV.out.2.2.1.1) (bc hb2' HV.out.2.2.1.2)
  have co := And.intro (bc hb2' HV.out.2.2.2.1) (bc hb2' HV.out.2.2.2.2)
  have q2 := HV.out.2.1.below hb2' (Nat.le_refl _)
  have hs := stands_any q2 (on, false) (k, false) HQ.out.2.2.1 HQ.out.2.1 HQ.out.2.2.2
  have heq := eql_id (k, false) (on, false)
  have bw : Below w.heap.size w V2 := HV.out.1.trans (hb2'.mono HV.out.1.size)
  have HQ2 := Lib.hid (And.intro q2 bw)
  unfold ek kv at heq
  clear co1 hh2 hb2 hb2' q2 H1 bw
  by_cases hxo : ((k, false) : Id) = (on, false)
  · rw [decide_eq_true hxo] at heq
    have HX := Lib.hid hxo
    clear hxo hs
    go_wp2_with fail
    go_ret
    exact ⟨9, by simp, E, HQ2.out.1, (Fr.of_below HQ2.out.2), .inl ⟨rfl, rfl, .inl HX.out⟩⟩
  · rw [decide_eq_false hxo] at heq
    have HX := Lib.hid hxo
    clear hxo
    go_wp2_with fail
    refine hs.mono ?_
    rintro e V3 ⟨⟨b, rfl, hbR⟩, hb3⟩
    have q3 := HQ2.out.1.below hb3 (Nat.le_refl _)
    have bw3 : Below w.heap.size w V3 := HQ2.out.2.trans (hb3.mono HQ2.out.2.size)
    have H3 := Lib.hid (And.intro q3 (And.intro bw3 hbR))
    have ck3 := And.intro (bc hb3 ck.1) (bc hb3 ck.2)
    have co3 := And.intro (bc hb3 co.1) (bc hb3 co.2)
    clear hs ck co hb3 hbR bw3
    cases b with
    | true =>
      clear q3
      go_wp2_with fail
      go_ret
      exact ⟨9, by simp, E, H3.out.1, Fr.of_below H3.out.2.1, .inl ⟨rfl, rfl, .inr (H3.out.2.2.1 (by simp))⟩⟩
    | false =>
      have c0 := q3.cell
      have lk : ∀ Z, Below V3.heap.size V3 Z → (Instr.lookup 104 (.map mv) (.agg #[.string ⟨k.toArray⟩, .bool false]) false).run Tryz.prog Z = .ok (.pointer (some ⟨nb (k, false), 0, none⟩)) Z := fun Z h => by
        have := q3.look (Y := Z) (fun b e => h.block b (q3.size b (q3.ownM b e))) (q3.ok _ HQ.out.2.1).1
        rw [if_pos HQ.out.2.1] at this; exact this
      have nd := (q3.nodeC HQ.out.2.1).2.1
      obtain ⟨n0, hO⟩ := q3.on (k, false) HQ.out.2.1
      have ls : ∀ Z, Below V3.heap.size V3 Z → (Instr.lookup 120 (.map (some (ob (k, false)))) (.agg #[.string ⟨on.toArray⟩, .bool false]) true).run Tryz.prog Z = .ok (.tuple #[.agg #[], .bool (E (k, false) (on, false))]) Z := fun Z h => by
        have := hO.look kindS (Y := Z) (h.block _ hO.lt) (q3.ok _ HQ.out.2.2.1).1
        rw [sf_getD, sf_some] at this
        exact this
      have nR : ¬ (((k, false) : Id) = (on, false) ∨ Re E (on, false) (k, false)) := fun e => e.elim HX.out fun e => by have := H3.out.2.2.2 e; cases this
      have hjn := fun Z (h : Below V3.heap.size V3 Z) => join_any (q3.below h (Nat.le_refl _)) (k, false) (on, false) HQ.out.2.1 HQ.out.2.2.1 (by have := HQ.out.2.2.2; omega)
      have HJ := Lib.hid hjn
      clear hjn
      have NR := Lib.hid nR
      clear hO nR q3
      generalize nb (k, false) = nk at *
      generalize ob (k, false) = okk at *
      obtain ⟨e0, he0⟩ : ∃ e0, e0 = E (k, false) (on, false) := ⟨_, rfl⟩
      rw [← he0] at ls
      have HE := Lib.hid he0
      clear he0
      go_wp2_with fail
      refine begin' 16 (fun Z => Below V3.heap.size V3 Z) hmix ((Below.refl _ V3).drew) (fun hS0 => ?_)
      refine Ht.takeD 8 (i := 0) ⟨some 37, _, _, _, _, _⟩ (.pointer (some ⟨gb, 0, none⟩)) rfl (by kernel_rfl) (by kernel_rfl) (by decide) (by kernel_rfl) (by kernel_rfl) (by kernel_rfl) hS0 (Or.inl ⟨by rfl, by (intro X hX; go_simp)⟩) ?_
      simp only [Act.put, List.setIfInBounds_toArray, List.set_cons_zero, List.set_cons_succ]
      refine Ht.takeD 8 (i := 1) ⟨some 38, _, _, _, _, _⟩ (.pointer (some ⟨gb, 0, none⟩)) rfl (by kernel_rfl) (by kernel_rfl) (by decide) (by kernel_rfl) (by kernel_rfl) (by kernel_rfl) hS0 (Or.inl ⟨by rfl, by (intro X hX; go_simp)⟩) ?_
      simp only [Act.put, List.setIfInBounds_toArray, List.set_cons_zero, List.set_cons_succ]
      refine Ht.takeD 8 (i := 2) ⟨some 39, _, _, _, _, _⟩ (.pointer (some ⟨gb, 0, none⟩)) rfl (by kernel_rfl) (by kernel_rfl) (by decide) (by kernel_rfl) (by kernel_rfl) (by kernel_rfl) hS0 (Or.inl ⟨by rfl, by (intro X hX; go_simp)⟩) ?_
      simp only [Act.put, List.setIfInBounds_toArray, List.set_cons_zero, List.set_cons_succ]
      refine Ht.takeD 8 (i := 3) ⟨some 40, _, _, _, _, _⟩ (.map mv) rfl (by kernel_rfl) (by kernel_rfl) (by decide) (by kernel_rfl) (by kernel_rfl) (by kernel_rfl) hS0 (Or.inl ⟨by rfl, by (intro X hX; have := bc hX c0; go_simp)⟩) ?_
      simp only [Act.put, List.setIfInBounds_toArray, List.set_cons_zero, List.set_cons_succ]
      refine Ht.takeD 8 (i := 4) ⟨some 41, _, _, _, _, _⟩ (.agg #[.string ⟨k.toArray⟩, .bool false]) rfl (by kernel_rfl) (by kernel_rfl) (by decide) (by kernel_rfl) (by kernel_rfl) (by kernel_rfl) hS0 (Or.inl ⟨by rfl, by (intro X hX; have := And.intro (bc hX ck3.1) (bc hX ck3.2); go_simp)⟩) ?_
      simp only [Act.put, List.setIfInBounds_toArray, List.set_cons_zero, List.set_cons_succ]
      refine Ht.takeD 8 (i := 5) ⟨some 42, _, _, _, _, _⟩ (.pointer (some ⟨nk, 0, none⟩)) rfl (by kernel_rfl) (by kernel_rfl) (by decide) (by kernel_rfl) (by kernel_rfl) (by kernel_rfl) hS0 (Or.inl ⟨by rfl, by (intro X hX; have := lk X hX; go_simp)⟩) ?_
      simp only [Act.put, List.setIfInBounds_toArray, List.set_cons_zero, List.set_cons_succ]
      refine Ht.takeD 8 (i := 6) ⟨some 43, _, _, _, _, _⟩ (.pointer (some ⟨nk, 0, none⟩)) rfl (by kernel_rfl) (by kernel_rfl) (by decide) (by kernel_rfl) (by kernel_rfl) (by kernel_rfl) hS0 (Or.inl ⟨by rfl, by (intro X hX; go_simp)⟩) ?_
      simp only [Act.put, List.setIfInBounds_toArray, List.set_cons_zero, List.set_cons_succ]
      refine Ht.takeD 8 (i := 7) ⟨some 44, _, _, _, _, _⟩ (.pointer (some ⟨nk, 1, none⟩)) rfl (by kernel_rfl) (by kernel_rfl) (by decide) (by kernel_rfl) (by kernel_rfl) (by kernel_rfl) hS0 (Or.inl ⟨by rfl, by (intro X hX; go_simp)⟩) ?_
      simp only [Act.put, List.setIfInBounds_toArray, List.set_cons_zero, List.set_cons_succ]
      refine Ht.takeD 8 (i := 8) ⟨some 45, _, _, _, _, _⟩ (.map (some okk)) rfl (by kernel_rfl) (by kernel_rfl) (by decide) (by kernel_rfl) (by kernel_rfl) (by kernel_rfl) hS0 (Or.inl ⟨by rfl, by (intro X hX; have := bc hX nd; go_simp)⟩) ?_
      simp only [Act.put, List.setIfInBounds_toArray, List.set_cons_zero, List.set_cons_succ]
      refine Ht.takeD 8 (i := 9) ⟨some 46, _, _, _, _, _⟩ (.agg #[.string ⟨on.toArray⟩, .bool false]) rfl (by kernel_rfl) (by kernel_rfl) (by decide) (by kernel_rfl) (by kernel_rfl) (by kernel_rfl) hS0 (Or.inl ⟨by rfl, by (intro X hX; have := And.intro (bc hX co3.1) (bc hX co3.2); go_simp)⟩) ?_
      simp only [Act.put, List.setIfInBounds_toArray, List.set_cons_zero, List.set_cons_succ]
      refine Ht.takeD 8 (i := 10) ⟨some 47, _, _, _, _, _⟩ (.tuple #[.agg #[], .bool e0]) rfl (by kernel_rfl) (by kernel_rfl) (by decide) (by kernel_rfl) (by kernel_rfl) (by kernel_rfl) hS0 (Or.inl ⟨by rfl, by (intro X hX; have := ls X hX; go_simp)⟩) ?_
      simp only [Act.put, List.setIfInBounds_toArray, List.set_cons_zero, List.set_cons_succ]
      refine Ht.takeD 8 (i := 11) ⟨some 36, _, _, _, _, _⟩ (.tuple #[.agg #[], .bool e0]) rfl (by kernel_rfl) (by kernel_rfl) (by decide) (by kernel_rfl) (by kernel_rfl) (by kernel_rfl) hS0 (Or.inl ⟨by rfl, by (intro X hX; go_simp)⟩) ?_
      simp only [Act.put, List.setIfInBounds_toArray, List.set_cons_zero, List.set_cons_succ]
      refine Ht.takeD 8 (i := 12) ⟨some 48, _, _, _, _, _⟩ (.agg #[]) rfl (by kernel_rfl) (by kernel_rfl) (by decide) (by kernel_rfl) (by kernel_rfl) (by kernel_rfl) hS0 (Or.inl ⟨by rfl, by (intro X hX; go_simp)⟩) ?_
      simp only [Act.put, List.setIfInBounds_toArray, List.set_cons_zero, List.set_cons_succ]
      refine Ht.takeD 8 (i := 13) ⟨some 49, _, _, _, _, _⟩ (.bool e0) rfl (by kernel_rfl) (by kernel_rfl) (by decide) (by kernel_rfl) (by kernel_rfl) (by kernel_rfl) hS0 (Or.inl ⟨by rfl, by (intro X hX; go_simp)⟩) ?_
      simp only [Act.put, List.setIfInBounds_toArray, List.set_cons_zero, List.set_cons_succ]
      have b1 : Below V3.heap.size V3 (V3.drew.alloc (.cells #[] 136)) := (Below.refl _ V3).drew.alloc (Nat.le_refl _) _
      refine Ht.step (i := 14) ⟨some 9, _, _, _, _, _⟩ rfl (by kernel_rfl) (by rfl) (fun K hK => ?_)
      go_simp
      refine hK _ _ (fun hn => b1) (fun hnx => ?_)
      clear hK K hnx
      try simp only [Act.put, List.setIfInBounds_toArray, List.set_cons_zero, List.set_cons_succ]
      refine Ht.step (i := 15) ⟨none, _, _, _, _, _⟩ rfl (by kernel_rfl) (by rfl) (fun K hK => ?_)
      go_simp
      refine hK _ _ (fun hn => b1) (fun hnx => ?_)
      clear hK K hnx
      try simp only [Act.put, List.setIfInBounds_toArray, List.set_cons_zero, List.set_cons_succ]
      refine Ht.step (i := 16) ⟨some 10, _, _, _, _, _⟩ rfl (by kernel_rfl) (by rfl) (fun K hK => ?_)
      go_simp
      refine hK _ _ (fun hn => absurd rfl hn) (fun hnx => ?_)
      clear hK K hnx
      try simp only [Act.put, List.setIfInBounds_toArray, List.set_cons_zero, List.set_cons_succ]
      refine done (by kernel_rfl) ?_
      clear hS0 lk ls c0 nd
      obtain ⟨Z, hZ⟩ : ∃ Z, Z = V3.drew.alloc (.cells #[] 136) := ⟨_, rfl⟩
      have ckZ := And.intro (bc b1 ck3.1) (bc b1 ck3.2)
      have coZ := And.intro (bc b1 co3.1) (bc b1 co3.2)
      rw [← hZ] at b1 ckZ coZ
      change Exit.then _ _ _ _ (V3.drew.alloc (.cells #[] 136))
      rw [← hZ]
      clear hZ ck3 co3
      cases e0 with
      | true =>
        go_wp2_with fail
        go_ret
        exact ⟨8, by simp, E, H3.out.1.below b1 (Nat.le_refl _), Fr.of_below (H3.out.2.1.trans (b1.mono H3.out.2.1.size)), .inr (.inl ⟨rfl, rfl, NR.out, HE.out.symm⟩)⟩
      | false =>
        have hjn := HJ.out Z b1
        go_wp2_with fail
        refine hjn.mono ?_
        rintro e V4 ⟨rfl, hq4, hf4⟩
        have H4 := Lib.hid (And.intro hq4 hf4)
        clear hq4 hf4 hjn
        go_wp2_with fail
        go_ret
        exact ⟨0, by simp, _, H4.out.1, (Fr.of_below (H3.out.2.1.trans (b1.mono H3.out.2.1.size))).trans H4.out.2 (fun k hk => .inl hk), .inr (.inr ⟨rfl, rfl, NR.out, HE.out.symm⟩)⟩
end
end Go.Proofs.YtcodjknhnhdkfaaGreatDoor.DgB
