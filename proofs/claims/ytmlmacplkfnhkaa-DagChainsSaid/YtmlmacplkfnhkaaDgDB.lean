
/- graphs: join -/
import Derived.Test.YtmlmacplkfnhkaaDgCB
namespace Go.Proofs.Ytmlmacplkfnhkaa.DgB
open Go.RowKit Go.Lib Hp Mv Dg Ht
set_option linter.unusedVariables false
set_option maxRecDepth 20000
theorem same_cell {X V : World} (h : X.heap = V.heap) {a : Addr} {v : Value} (c : V.cell? a = some v) : X.cell? a = some v := by
  unfold World.cell? at c ⊢; rw [h]; exact c
/-- one more -/
def addE (E : Id → Id → Bool) (x o : Id) : Id → Id → Bool := fun a b => E a b || (decide (a = x) && decide (b = o))
theorem addE_iff {E : Id → Id → Bool} {x o a b : Id} : addE E x o a b = true ↔ E a b = true ∨ (a = x ∧ b = o) := by unfold addE; simp
section
variable {S : Nat → Prop} {w : World} {gb : Nat} {mv : Option Nat} {ns : List Id} {E : Id → Id → Bool} {nb ob ub : Id → Nat}
/-- its sets are small -/
theorem Gq.on_le (q : Gq S w gb mv ns E nb ob ub) {x : Id} {n : Nat} (h : Mq w (ob x) n (sf fun y => E x y)) : n ≤ ns.length :=
  h.card_le kindS fun k _ hk => by rw [sf_some] at hk; exact (q.edge _ _ hk).2
theorem Gq.users_le (q : Gq S w gb mv ns E nb ob ub) {x : Id} {n : Nat} (h : Mq w (ub x) n (sf fun y => E y x)) : n ≤ ns.length :=
  h.card_le kindS fun k _ hk => by rw [sf_some] at hk; exact (q.edge _ _ hk).1
/-- what both stores leave -/
theorem Gq.joined {x o : Id} {X Y : World} {n m : Nat} (q : Gq S w gb mv ns E nb ob ub) (hx : x ∈ ns) (ho : o ∈ ns) (g1 : w.grownBy X (some (ob x))) (g2 : X.grownBy Y (some (ub o)))
    (h1 : Mq X (ob x) n (Mv.upd (sf fun y => E x y) o unit)) (h2 : Mq Y (ub o) m (Mv.upd (sf fun y => E y o) x unit)) : Gq S Y gb mv ns (addE E x o) nb ob ub ∧ Fr S w Y := by
  have f1 : Fr S w X := Fr.grown g1 (.inl (q.ownN x hx).2.1)
  have f2 : Fr S X Y := Fr.grown g2 (.inl (q.ownN o ho).2.2)
  have hk : ∀ k, S k → k ≠ ob x → k ≠ ub o → Y.heap[k]? = w.heap[k]? := fun k hk e1 e2 =>
    (g2.block k (Nat.lt_of_lt_of_le (q.size k hk) g1.size) (fun e => e2 (Option.some.inj e))).trans (g1.block k (q.size k hk) (fun e => e1 (Option.some.inj e)))
  obtain ⟨n0, hOx⟩ := q.on x hx
  obtain ⟨m0, hUo⟩ := q.users o ho
  have cO : ∀ y ∈ ns, ∀ {c : Array Value} {t : TypeId} {z : Nat × Nat} {g : Nat}, w.heap[g]? = some (.cells c t z) → g ≠ ob y ∧ g ≠ ub y := fun y hy c t z g h => by
    obtain ⟨_, h3⟩ := q.on y hy
    obtain ⟨_, h4⟩ := q.users y hy
    exact ⟨(h3.ne h).symm, (h4.ne h).symm⟩
  refine ⟨⟨?_, ?_, ?_, ?_, ?_, ?_, q.ok, q.nd, q.dOO, q.dUU, q.dOU, q.dM, q.ownG, q.ownM, q.ownN, fun k hk => Nat.lt_of_lt_of_le (q.size k hk) (Nat.le_trans g1.size g2.size)⟩, f1.trans f2 fun y hy => .inl hy⟩
  · exact (hk gb q.ownG (cO x hx q.obj).1 (cO o ho q.obj).2).trans q.obj
  · exact q.map.imp_right fun ⟨b, e, hm⟩ => ⟨b, e, hm.kept (hk b (q.ownM b e) (fun e2 => (q.dM b e x hx).1 e2.symm) (fun e2 => (q.dM b e o ho).2 e2.symm))⟩
  · intro y hy
    exact (hk _ (q.ownN y hy).1 (cO x hx (q.node y hy)).1 (cO o ho (q.node y hy)).2).trans (q.node y hy)
  · intro y hy
    by_cases e : y = x
    · subst e
      refine ⟨n, (h1.kept (g2.block _ h1.lt fun e => q.dOU y hx o ho (Option.some.inj e))).congr fun k _ => ?_⟩
      unfold Mv.upd sf addE
      by_cases e : k = o <;> simp [e]
    · obtain ⟨n1, h3⟩ := q.on y hy
      refine ⟨n1, (h3.kept (hk _ (q.ownN y hy).2.1 (fun e2 => e (q.dOO y hy x hx e2)) (q.dOU y hy o ho))).congr fun k _ => ?_⟩
      unfold sf addE
      simp [e]
  · intro y hy
    by_cases e : y = o
    · subst e
      refine ⟨m, h2.congr fun k _ => ?_⟩
      unfold Mv.upd sf addE
      by_cases e : k = x <;> simp [e]
    · obtain ⟨n1, h3⟩ := q.users y hy
      refine ⟨n1, (h3.kept (hk _ (q.ownN y hy).2.2 (fun e2 => q.dOU x hx y hy e2.symm) (fun e2 => e (q.dUU y hy o ho e2)))).congr fun k _ => ?_⟩
      unfold sf addE
      simp [e]
  · intro a b h
    rcases addE_iff.1 h with h | ⟨rfl, rfl⟩
    · exact q.edge a b h
    · exact ⟨hx, ho⟩
set_option maxHeartbeats 2000000 in
theorem join_any (q : Gq S w gb mv ns E nb ob ub) (x o : Id) (hx : x ∈ ns) (ho : o ∈ ns) (hn : ns.length ≤ 1000000) : Calls Try.prog 26 #[.pointer (some ⟨gb, 0, none⟩), ek x, ek o] w fun e w' => e = .returned (.tuple #[]) ∧ Gq S w' gb mv ns (addE E x o) nb ob ub ∧ Fr S w w' := by
  obtain ⟨V1, hV1⟩ : ∃ V, V = w.alloc (.cells #[kv x.1, .bool x.2] 67) := ⟨_, rfl⟩
  obtain ⟨V, hV⟩ : ∃ V, V = V1.alloc (.cells #[kv o.1, .bool o.2] 67) := ⟨_, rfl⟩
  have hb1 : Below w.heap.size w V1 := by rw [hV1]; exact (Below.refl _ w).alloc (Nat.le_refl _) _
  have hb2 : Below V1.heap.size V1 V := by rw [hV]; exact (Below.refl _ V1).alloc (Nat.le_refl _) _
  have hb : Below w.heap.size w V := hb1.trans (hb2.mono hb1.size)
  have q2 := q.below hb (Nat.le_refl _)
  have c0 := q2.cell
  have cx : V.cell? ⟨w.heap.size, 0, none⟩ = some (kv x.1) ∧ V.cell? ⟨w.heap.size, 1, none⟩ = some (.bool x.2) := by
    obtain ⟨c1, c2⟩ := cell_id w x
    rw [← hV1] at c1 c2
    have hl : w.heap.size < V1.heap.size := by rw [hV1]; simp
    exact ⟨(hb2.cell (p := ⟨w.heap.size, 0, none⟩) hl).trans c1, (hb2.cell (p := ⟨w.heap.size, 1, none⟩) hl).trans c2⟩
  have co : V.cell? ⟨V1.heap.size, 0, none⟩ = some (kv o.1) ∧ V.cell? ⟨V1.heap.size, 1, none⟩ = some (.bool o.2) := by rw [hV]; exact cell_id V1 o
  have hz : V1.heap.size = w.heap.size + 1 := by rw [hV1]; simp
  rw [hz] at co
  obtain ⟨n, hO⟩ := q2.on x hx
  have hon := q2.on_le hO
  obtain ⟨X, hrX, hOX, gX, sX⟩ := Mv.Mp.put kindS (w := V.drew) hO (by unfold maxLen; omega) (q2.ok o ho).1 unit
  have q3 : Gq S V.drew gb mv ns E nb ob ub := q2.kept (Nat.le_refl _) (fun _ _ => rfl)
  have hXo : ∀ k, S k → k ≠ ob x → X.heap[k]? = V.heap[k]? := fun k hk e => gX.block k (q3.size k hk) (fun e2 => e (Option.some.inj e2))
  have hXl : ∀ k, k < V.heap.size → ¬ S k → X.heap[k]? = V.heap[k]? := fun k hk e => gX.block k hk (fun e2 => e (by obtain rfl := Option.some.inj e2; exact (q2.ownN x hx).2.1))
  have n1 : ¬ S w.heap.size := fun e => by have := q.size _ e; omega
  have n2 : ¬ S (w.heap.size + 1) := fun e => by have := q.size _ e; omega
  have hzV : V.heap.size = w.heap.size + 1 + 1 := by rw [hV, ← hz]; simp
  have oc : ∀ g, g ≠ ob x → S g → ∀ k, X.cell? ⟨g, k, none⟩ = V.cell? ⟨g, k, none⟩ := fun g e hg k => by unfold World.cell?; rw [hXo g hg e]
  have oc2 : ∀ g, g < V.heap.size → ¬ S g → ∀ k, X.cell? ⟨g, k, none⟩ = V.cell? ⟨g, k, none⟩ := fun g e hg k => by unfold World.cell?; rw [hXl g e hg]
  have cxX : X.cell? ⟨w.heap.size, 0, none⟩ = some (kv x.1) ∧ X.cell? ⟨w.heap.size, 1, none⟩ = some (.bool x.2) := by rw [oc2 _ (by omega) n1, oc2 _ (by omega) n1]; exact cx
  have coX : X.cell? ⟨w.heap.size + 1, 0, none⟩ = some (kv o.1) ∧ X.cell? ⟨w.heap.size + 1, 1, none⟩ = some (.bool o.2) := by rw [oc2 _ (by omega) n2, oc2 _ (by omega) n2]; exact co
  have c0X : X.cell? ⟨gb, 0, none⟩ = some (.map mv) := by rw [oc _ (hO.ne q2.obj).symm q2.ownG]; exact c0
  have ndo : X.cell? ⟨nb o, 2, none⟩ = some (.map (some (ub o))) := by rw [oc _ (hO.ne (q2.node o ho)).symm (q2.ownN o ho).1]; exact (q2.nodeC ho).2.2
  have ndx := (q2.nodeC hx).2.1
  obtain ⟨m, hU⟩ := q2.users o ho
  have hUn := q2.users_le hU
  have hUX := hU.kept (hXo _ (q2.ownN o ho).2.2 (fun e => q2.dOU x hx o ho e.symm))
  obtain ⟨Y, hrY, hUY, gY, sY⟩ := Mv.Mp.put kindS (w := X.drew) hUX (by unfold maxLen; omega) (q2.ok x hx).1 unit
  have lx : ∀ Z : World, Z.heap = V.heap → (Instr.lookup 63 (.map mv) (.agg #[kv x.1, .bool x.2]) false).run Try.prog Z = .ok (.pointer (some ⟨nb x, 0, none⟩)) Z := fun Z h => by
    have := q2.look (Y := Z) (fun b e => by rw [h]) (q2.ok x hx).1
    rw [if_pos hx] at this; exact this
  have lo : ∀ Z : World, Z.heap = X.heap → (Instr.lookup 63 (.map mv) (.agg #[kv o.1, .bool o.2]) false).run Try.prog Z = .ok (.pointer (some ⟨nb o, 0, none⟩)) Z := fun Z h => by
    have := q2.look (Y := Z) (fun b e => by rw [h]; exact hXo b (q2.ownM b e) (fun e2 => (q2.dM b e x hx).1 e2.symm)) (q2.ok o ho).1
    rw [if_pos ho] at this; exact this
  obtain ⟨hJ, hF⟩ := q3.joined hx ho gX (⟨gY.os, gY.tape, gY.output, gY.size, gY.block⟩ : X.grownBy Y (some (ub o))) hOX hUY
  have HJ := Lib.hid (And.intro hJ (And.intro hF hb))
  clear hJ hF hb q3 q2 q hO hon hU hUn hUX gX gY sX sY hOX hUY hXo hXl n1 n2 oc oc2 hb1 hb2 hx ho hn
  have hzH := Lib.hid hz
  have hzV2 := Lib.hid hzV
  have HV := Lib.hid (And.intro hV1 hV)
  clear hzV
  unfold ek at hrX hrY ⊢
  generalize kv x.1 = x1 at *
  generalize kv o.1 = o1 at *
  generalize x.2 = x2 at *
  generalize o.2 = o2 at *
  generalize nb x = nx at *
  generalize nb o = no at *
  generalize ob x = ox at *
  generalize ub o = uo at *
  unfold unit at hrX hrY
  have hmix : Try.prog.follows .mixedOrders = true := by kernel_rfl
  go_enter Try.func26, Try.ntmps26
  go_wp2_with fail
  rw [← hV1]
  rw [← hV]
  clear hV hV1
  refine begin' 99 (fun _ => True) hmix trivial (fun _ => ?_)
  refine later [11] (fun Z => Z.heap = V.heap) (rfl) (fun hS0 => ?_)
  refine Ht.takeS 10 (i := 0) ⟨some 6, _, _, _, _, _⟩ (.pointer (some ⟨gb, 0, none⟩)) rfl (by kernel_rfl) (by kernel_rfl) (by kernel_rfl) (by kernel_rfl) (by kernel_rfl) hS0 (Or.inl ⟨by rfl, by (intro X hX; go_simp)⟩) ?_
  simp only [Act.put, List.setIfInBounds_toArray, List.set_cons_zero, List.set_cons_succ]
  refine Ht.takeS 10 (i := 1) ⟨some 7, _, _, _, _, _⟩ (.pointer (some ⟨gb, 0, none⟩)) rfl (by kernel_rfl) (by kernel_rfl) (by kernel_rfl) (by kernel_rfl) (by kernel_rfl) hS0 (Or.inl ⟨by rfl, by (intro X hX; go_simp)⟩) ?_
  simp only [Act.put, List.setIfInBounds_toArray, List.set_cons_zero, List.set_cons_succ]
  refine Ht.takeS 10 (i := 2) ⟨some 8, _, _, _, _, _⟩ (.pointer (some ⟨gb, 0, none⟩)) rfl (by kernel_rfl) (by kernel_rfl) (by kernel_rfl) (by kernel_rfl) (by kernel_rfl) hS0 (Or.inl ⟨by rfl, by (intro X hX; go_simp)⟩) ?_
  simp only [Act.put, List.setIfInBounds_toArray, List.set_cons_zero, List.set_cons_succ]
  refine Ht.takeS 10 (i := 3) ⟨some 9, _, _, _, _, _⟩ (.map mv) rfl (by kernel_rfl) (by kernel_rfl) (by kernel_rfl) (by kernel_rfl) (by kernel_rfl) hS0 (Or.inl ⟨by rfl, by (intro X hX; have := same_cell hX c0; go_simp)⟩) ?_
  simp only [Act.put, List.setIfInBounds_toArray, List.set_cons_zero, List.set_cons_succ]
  refine Ht.takeS 10 (i := 4) ⟨some 10, _, _, _, _, _⟩ (.agg #[x1, .bool x2]) rfl (by kernel_rfl) (by kernel_rfl) (by kernel_rfl) (by kernel_rfl) (by kernel_rfl) hS0 (Or.inl ⟨by rfl, by (intro X hX; have := And.intro (same_cell hX cx.1) (same_cell hX cx.2); go_simp)⟩) ?_
  simp only [Act.put, List.setIfInBounds_toArray, List.set_cons_zero, List.set_cons_succ]
  refine Ht.takeS 10 (i := 5) ⟨some 11, _, _, _, _, _⟩ (.pointer (some ⟨nx, 0, none⟩)) rfl (by kernel_rfl) (by kernel_rfl) (by kernel_rfl) (by kernel_rfl) (by kernel_rfl) hS0 (Or.inl ⟨by rfl, by (intro X hX; have := lx X hX; go_simp)⟩) ?_
  simp only [Act.put, List.setIfInBounds_toArray, List.set_cons_zero, List.set_cons_succ]
  refine Ht.takeS 10 (i := 6) ⟨some 12, _, _, _, _, _⟩ (.pointer (some ⟨nx, 0, none⟩)) rfl (by kernel_rfl) (by kernel_rfl) (by kernel_rfl) (by kernel_rfl) (by kernel_rfl) hS0 (Or.inl ⟨by rfl, by (intro X hX; go_simp)⟩) ?_
  simp only [Act.put, List.setIfInBounds_toArray, List.set_cons_zero, List.set_cons_succ]
  refine Ht.takeS 10 (i := 7) ⟨some 13, _, _, _, _, _⟩ (.pointer (some ⟨nx, 1, none⟩)) rfl (by kernel_rfl) (by kernel_rfl) (by kernel_rfl) (by kernel_rfl) (by kernel_rfl) hS0 (Or.inl ⟨by rfl, by (intro X hX; go_simp)⟩) ?_
  simp only [Act.put, List.setIfInBounds_toArray, List.set_cons_zero, List.set_cons_succ]
  refine Ht.takeS 10 (i := 8) ⟨some 14, _, _, _, _, _⟩ (.map (some ox)) rfl (by kernel_rfl) (by kernel_rfl) (by kernel_rfl) (by kernel_rfl) (by kernel_rfl) hS0 (Or.inl ⟨by rfl, by (intro X hX; have := same_cell hX ndx; go_simp)⟩) ?_
  simp only [Act.put, List.setIfInBounds_toArray, List.set_cons_zero, List.set_cons_succ]
  refine Ht.takeS 10 (i := 9) ⟨some 15, _, _, _, _, _⟩ (.agg #[o1, .bool o2]) rfl (by kernel_rfl) (by kernel_rfl) (by kernel_rfl) (by kernel_rfl) (by kernel_rfl) hS0 (Or.inl ⟨by rfl, by (intro X hX; have := And.intro (same_cell hX co.1) (same_cell hX co.2); go_simp)⟩) ?_
  simp only [Act.put, List.setIfInBounds_toArray, List.set_cons_zero, List.set_cons_succ]
  refine Ht.takeS 10 (i := 10) ⟨some 16, _, _, _, _, _⟩ (.agg #[]) rfl (by kernel_rfl) (by kernel_rfl) (by kernel_rfl) (by kernel_rfl) (by kernel_rfl) hS0 (Or.inl ⟨by rfl, by (intro X hX; go_simp)⟩) ?_
  simp only [Act.put, List.setIfInBounds_toArray, List.set_cons_zero, List.set_cons_succ]
  refine Ht.stepS (i := 11) ⟨none, _, _, _, _, _⟩ rfl (by kernel_rfl) (by rfl) (fun K hK => ?_)
  go_simp
  refine hK _ _ (fun hn => absurd (by decide) hn) (fun hnx => ?_)
  clear hK K hnx
  try simp only [Act.put, List.setIfInBounds_toArray, List.set_cons_zero, List.set_cons_succ]
  refine doneS (by kernel_rfl) ?_
  go_wp2_with fail
  refine begin' 99 (fun _ => True) hmix trivial (fun _ => ?_)
  refine later [11] (fun Z => Z.heap = X.heap) (rfl) (fun hS0 => ?_)
  refine Ht.takeS 10 (i := 0) ⟨some 17, _, _, _, _, _⟩ (.pointer (some ⟨gb, 0, none⟩)) rfl (by kernel_rfl) (by kernel_rfl) (by kernel_rfl) (by kernel_rfl) (by kernel_rfl) hS0 (Or.inl ⟨by rfl, by (intro X hX; go_simp)⟩) ?_
  simp only [Act.put, List.setIfInBounds_toArray, List.set_cons_zero, List.set_cons_succ]
  refine Ht.takeS 10 (i := 1) ⟨some 18, _, _, _, _, _⟩ (.pointer (some ⟨gb, 0, none⟩)) rfl (by kernel_rfl) (by kernel_rfl) (by kernel_rfl) (by kernel_rfl) (by kernel_rfl) hS0 (Or.inl ⟨by rfl, by (intro X hX; go_simp)⟩) ?_
  simp only [Act.put, List.setIfInBounds_toArray, List.set_cons_zero, List.set_cons_succ]
  refine Ht.takeS 10 (i := 2) ⟨some 19, _, _, _, _, _⟩ (.pointer (some ⟨gb, 0, none⟩)) rfl (by kernel_rfl) (by kernel_rfl) (by kernel_rfl) (by kernel_rfl) (by kernel_rfl) hS0 (Or.inl ⟨by rfl, by (intro X hX; go_simp)⟩) ?_
  simp only [Act.put, List.setIfInBounds_toArray, List.set_cons_zero, List.set_cons_succ]
  refine Ht.takeS 10 (i := 3) ⟨some 20, _, _, _, _, _⟩ (.map mv) rfl (by kernel_rfl) (by kernel_rfl) (by kernel_rfl) (by kernel_rfl) (by kernel_rfl) hS0 (Or.inl ⟨by rfl, by (intro X hX; have := same_cell hX c0X; go_simp)⟩) ?_
  simp only [Act.put, List.setIfInBounds_toArray, List.set_cons_zero, List.set_cons_succ]
  refine Ht.takeS 10 (i := 4) ⟨some 21, _, _, _, _, _⟩ (.agg #[o1, .bool o2]) rfl (by kernel_rfl) (by kernel_rfl) (by kernel_rfl) (by kernel_rfl) (by kernel_rfl) hS0 (Or.inl ⟨by rfl, by (intro X hX; have := And.intro (same_cell hX coX.1) (same_cell hX coX.2); go_simp)⟩) ?_
  simp only [Act.put, List.setIfInBounds_toArray, List.set_cons_zero, List.set_cons_succ]
  refine Ht.takeS 10 (i := 5) ⟨some 22, _, _, _, _, _⟩ (.pointer (some ⟨no, 0, none⟩)) rfl (by kernel_rfl) (by kernel_rfl) (by kernel_rfl) (by kernel_rfl) (by kernel_rfl) hS0 (Or.inl ⟨by rfl, by (intro X hX; have := lo X hX; go_simp)⟩) ?_
  simp only [Act.put, List.setIfInBounds_toArray, List.set_cons_zero, List.set_cons_succ]
  refine Ht.takeS 10 (i := 6) ⟨some 23, _, _, _, _, _⟩ (.pointer (some ⟨no, 0, none⟩)) rfl (by kernel_rfl) (by kernel_rfl) (by kernel_rfl) (by kernel_rfl) (by kernel_rfl) hS0 (Or.inl ⟨by rfl, by (intro X hX; go_simp)⟩) ?_
  simp only [Act.put, List.setIfInBounds_toArray, List.set_cons_zero, List.set_cons_succ]
  refine Ht.takeS 10 (i := 7) ⟨some 24, _, _, _, _, _⟩ (.pointer (some ⟨no, 2, none⟩)) rfl (by kernel_rfl) (by kernel_rfl) (by kernel_rfl) (by kernel_rfl) (by kernel_rfl) hS0 (Or.inl ⟨by rfl, by (intro X hX; go_simp)⟩) ?_
  simp only [Act.put, List.setIfInBounds_toArray, List.set_cons_zero, List.set_cons_succ]
  refine Ht.takeS 10 (i := 8) ⟨some 25, _, _, _, _, _⟩ (.map (some uo)) rfl (by kernel_rfl) (by kernel_rfl) (by kernel_rfl) (by kernel_rfl) (by kernel_rfl) hS0 (Or.inl ⟨by rfl, by (intro X hX; have := same_cell hX ndo; go_simp)⟩) ?_
  simp only [Act.put, List.setIfInBounds_toArray, List.set_cons_zero, List.set_cons_succ]
  refine Ht.takeS 10 (i := 9) ⟨some 26, _, _, _, _, _⟩ (.agg #[x1, .bool x2]) rfl (by kernel_rfl) (by kernel_rfl) (by kernel_rfl) (by kernel_rfl) (by kernel_rfl) hS0 (Or.inl ⟨by rfl, by (intro X hX; have := And.intro (same_cell hX cxX.1) (same_cell hX cxX.2); go_simp)⟩) ?_
  simp only [Act.put, List.setIfInBounds_toArray, List.set_cons_zero, List.set_cons_succ]
  refine Ht.takeS 10 (i := 10) ⟨some 27, _, _, _, _, _⟩ (.agg #[]) rfl (by kernel_rfl) (by kernel_rfl) (by kernel_rfl) (by kernel_rfl) (by kernel_rfl) hS0 (Or.inl ⟨by rfl, by (intro X hX; go_simp)⟩) ?_
  simp only [Act.put, List.setIfInBounds_toArray, List.set_cons_zero, List.set_cons_succ]
  refine Ht.stepS (i := 11) ⟨none, _, _, _, _, _⟩ rfl (by kernel_rfl) (by rfl) (fun K hK => ?_)
  go_simp
  refine hK _ _ (fun hn => absurd (by decide) hn) (fun hnx => ?_)
  clear hK K hnx
  try simp only [Act.put, List.setIfInBounds_toArray, List.set_cons_zero, List.set_cons_succ]
  refine doneS (by kernel_rfl) ?_
  go_wp2_with fail
  go_end0
  exact ⟨by simp, HJ.out.1, (Fr.of_below HJ.out.2.2).drew.trans HJ.out.2.1 fun k hk => .inl hk⟩
end
end Go.Proofs.Ytmlmacplkfnhkaa.DgB

