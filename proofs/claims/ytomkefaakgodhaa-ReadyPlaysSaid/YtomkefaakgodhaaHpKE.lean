
/- heaps of string and uint64: drop -/
import Derived.Test.YtomkefaakgodhaaHpJE
namespace Go.Proofs.Ytomkefaakgodhaa.HpE
open Go.RowKit Go.Lib Go.Sort Hp Ht
set_option linter.unusedVariables false
set_option maxRecDepth 20000
theorem wp_delete {o : Oper} {a : Act} {W W' : World} {F : Act → World → Prop} {Q : Exit → Act → World → Prop} {v u v' : Value} (s x : Operand) (t tk : TypeId)
    (ho : o.op = .call { callee := .builtin .delete, args := #[s, x], argTypes := #[t, tk] }) (hs : a.eval s = v) (hx : a.eval x = u)
    (hr : (Builtin.delete_ #[t, tk] o.type #[v, u]).run Try.prog W = .ok v' W') (h : F (a.put o.dst v') W') : o.wp Try.prog a W F Q := by
  unfold Oper.wp execOp
  simp only [ho, resolve, invoke, builtin, Sem.run_bind, Sem.run_pure, Result.andThen_ok, List.map_toArray, List.map_cons, List.map_nil, hs, hx, hr]
  exact h
section
variable {S : Nat → Prop} {w : World} {hb : Nat} {iv mv : Value} {l m : List (K × Int)} {f : K → Option Nat}
/-- the last one taken off -/
theorem drop_end {V V3 V5 : World} {g cap b : Nat} {q : List (K × Int)} {x y : Value} (h : Hq S V hb (.slice (some ⟨g, 0, none⟩) q.length cap) (.map (some b)) q f) (hl : 0 < q.length) (hB : Blk V g cap q) (hM : Mq V b q.length f)
    (hgb : g ≠ hb) (hbb : b ≠ hb) (hgm : g ≠ b) (hM3 : Mp Try.prog 9 3 .i64 kl wk V3 b (q.length - 1) (del (mf f) (el q (q.length - 1)).1)) (hg3 : V.drew.grownBy V3 (some b))
    (h5 : V5 = (((V3.setCell ⟨g, (q.length - 1) * 2, none⟩ x).setCell ⟨g, (q.length - 1) * 2 + 1, none⟩ y).setCell ⟨hb, 0, none⟩ (.slice (some ⟨g, 0, none⟩) (q.length - 1) cap))) :
    Hq S V5 hb (.slice (some ⟨g, 0, none⟩) (q.length - 1) cap) (.map (some b)) (q.take (q.length - 1)) (del f (el q (q.length - 1)).1) ∧ Fr S V V5 := by
  have hSg : S g := h.ownI g (by
    have := hB.fits
    obtain ⟨c, rfl⟩ : ∃ c, cap = c + 1 := ⟨cap - 1, by omega⟩
    rfl)
  have hSb : S b := h.ownM b rfl
  have hg3' : V.grownBy V3 (some b) := ⟨hg3.os, hg3.tape, hg3.output, hg3.size, hg3.block⟩
  have zh := h.size hb h.own
  have zg := h.size g hSg
  have z3 := hg3'.size
  have o3 : V3.heap[hb]? = some (.cells #[.slice (some ⟨g, 0, none⟩) q.length cap, .map (some b)] 76 (0, 0)) := (hg3'.block hb zh (fun e => hbb (Option.some.inj e).symm)).trans h.obj
  have B3 : Blk V3 g cap q := hB.kept (hg3'.block g zg (fun e => hgm (Option.some.inj e)))
  have ht : (q.take (q.length - 1)).length = q.length - 1 := by simp
  have B3t := B3.take (q.length - 1)
  have B4 := (B3t.far ((q.length - 1) * 2) x (by rw [ht]; omega)).far ((q.length - 1) * 2 + 1) y (by rw [ht]; omega)
  obtain ⟨V4, hV4⟩ : ∃ V4, V4 = (V3.setCell ⟨g, (q.length - 1) * 2, none⟩ x).setCell ⟨g, (q.length - 1) * 2 + 1, none⟩ y := ⟨_, rfl⟩
  rw [← hV4] at B4 h5
  have g4 : V3.grownBy V4 (some g) := by rw [hV4]; exact Lib.grownBy_setB (Lib.grownBy_setCell V3 g _ _) _ _
  have g5 : V4.grownBy V5 (some hb) := by rw [h5]; exact Lib.grownBy_setCell V4 hb 0 _
  have o4 : V4.heap[hb]? = V3.heap[hb]? := g4.block hb (by omega) (fun e => hgb (Option.some.inj e).symm)
  have o5 : V5.heap[hb]? = some (.cells #[.slice (some ⟨g, 0, none⟩) (q.length - 1) cap, .map (some b)] 76 (0, 0)) := by rw [h5, Lib.heap_setCell_same (o4.trans o3)]; rfl
  have z4 := g4.size
  have z5 := g5.size
  have B5 : Blk V5 g cap (q.take (q.length - 1)) := B4.kept (g5.block g (by omega) (fun e => hgb (Option.some.inj e)))
  have zb := hM.lt
  have m5 : V5.heap[b]? = V3.heap[b]? := (g5.block b (by omega) (fun e => hbb (Option.some.inj e))).trans (g4.block b (by omega) (fun e => hgm (Option.some.inj e).symm))
  have f3 : Fr S V V3 := Fr.grown hg3' (.inl hSb)
  have f4 : Fr S V3 V4 := Fr.grown g4 (.inl hSg)
  have f5 : Fr S V4 V5 := Fr.grown g5 (.inl h.own)
  have ff : Fr S V V5 := (f3.trans f4 fun x hx => .inl hx).trans f5 fun x hx => .inl hx
  refine ⟨⟨o5, .inr ⟨g, cap, by rw [ht], B5⟩, .inr ⟨b, rfl, ?_⟩, h.pl.pop hl, fun x hx => h.keys x (List.mem_of_mem_take hx), h.own, fun x hx => ?_, h.ownM, fun k hk => Nat.lt_of_lt_of_le (h.size k hk) ff.size⟩, ff⟩
  · rw [ht]
    have : Mq V3 b (q.length - 1) (del f (el q (q.length - 1)).1) := by rw [Mq, mf_del]; exact hM3
    exact this.kept m5
  · have : x = g := by
      rcases blk_own hx with h2 | h2
      · exact (Option.some.inj h2).symm
      · cases h2
    rw [this]; exact hSg
set_option maxHeartbeats 1000000 in
theorem drop_any (h : Hq S w hb iv mv l f) (hh : Hpd ltp l) {i : Nat} (hi : i < l.length) (hn : l.length ≤ 1000000) :
    Calls Try.prog 37 #[.pointer (some ⟨hb, 0, none⟩), .int .i64 ((i : Nat) : Int)] w fun e w' => e = .returned (.tuple #[]) ∧ ∃ m, Hw S w hb w' m ∧ (m ++ [el l i]).Perm l := by
  have hmix : Try.prog.follows .mixedOrders = true := by kernel_rfl
  have hI := h.items
  obtain ⟨a, cap, hiv, hcap⟩ := h.shape
  rw [hiv] at hI
  have hS := swap_any h hi (j := l.length - 1) (by omega) hn
  have hl1 : IntKind.i64.wrap (((l.length : Nat) : Int) - 1) = ((l.length - 1 : Nat) : Int) := by rw [IntWalk.i64_in] <;> omega
  have hl2 : wrap64 (((l.length : Nat) : Int) - 1) = ((l.length - 1 : Nat) : Int) := by unfold wrap64; omega
  have HH := Lib.hid (And.intro h (And.intro hh (And.intro hi (And.intro hn hiv))))
  clear h hh hi hn hiv
  obtain ⟨n, hln⟩ : ∃ n, n = l.length := ⟨_, rfl⟩
  rw [← hln] at hI hS hl1 hl2 hcap
  have HL := Lib.hid hln
  clear hln
  go_enter Try.func37, Try.ntmps37
  go_wp2_with fail
  refine hS.mono ?_
  rintro e V ⟨rfl, ⟨f2, hq2⟩, hfr2⟩
  clear hS hI
  obtain ⟨q, hqe⟩ : ∃ q, q = sw l i (n - 1) := ⟨_, rfl⟩
  rw [← hqe] at hq2
  have hqn : q.length = n := by rw [hqe, len_sw, HL.out]
  have hin : i < n := by rw [HL.out]; exact HH.out.2.2.1
  have hnn : n ≤ 1000000 := by rw [HL.out]; exact HH.out.2.2.2.1
  obtain ⟨g, cap2, b, hiv2, hB, rfl, hM, hSg, hSb, hgb, hbb, hgm⟩ := hq2.at (by omega)
  have hI := hq2.items
  have hP := hq2.places
  have hk1 := hB.key (i := n - 1) (by omega)
  obtain ⟨c1, hc1⟩ : ∃ x, x = (el q (n - 1)).1 := ⟨_, rfl⟩
  have w1 : wk c1 := by rw [hc1]; exact hq2.keys _ (el_mem (by omega))
  have f1 : (f2 c1).isSome = true := by rw [hc1, hq2.pl.key (by omega)]; rfl
  rw [← hc1] at hk1
  have hMd : Mq V.drew b q.length f2 := hM.kept rfl
  obtain ⟨V3, run3, hM3, hg3⟩ := hMd.drop kind w1 (by rw [mf_some]; exact f1) 0
  rw [hiv2, hqn] at hI
  have o3 : V3.heap[g]? = V.heap[g]? := hg3.block g (hB.lt) (fun e => hgm (Option.some.inj e))
  have o4 : V3.heap[hb]? = V.heap[hb]? := hg3.block hb (hq2.size hb hq2.own) (fun e => hbb (Option.some.inj e).symm)
  have B3 := hB.kept o3
  have d1 : V3.cell? ⟨hb, 0, none⟩ = some (.slice (some ⟨g, 0, none⟩) n cap2) := by rw [← hI]; unfold World.cell?; rw [o4]
  have d2 := B3.key (i := n - 1) (by omega)
  have d3 := B3.rank (i := n - 1) (by omega)
  have d4 := B3.free ((n - 1) * 2)
  have d5 := B3.free ((n - 1) * 2 + 1)
  have d6 : V3.frozen? ⟨hb, 0, none⟩ = false := by simp [World.frozen?, o4, hq2.obj]
  have hne : hb ≠ g := fun e => hgb e.symm
  have hcap2 : n ≤ cap2 := by rw [← hqn]; exact hB.fits
  have HQ := Lib.hid (And.intro hq2 (And.intro hfr2 (And.intro hqe (And.intro hqn (And.intro hiv2 (And.intro hB (And.intro hM (And.intro hSg (And.intro hSb (And.intro hgb (And.intro hbb (And.intro hgm (And.intro hM3 (And.intro hg3 hc1))))))))))))))
  have hix : ((i : Nat) : Int) < ((n : Nat) : Int) := by omega
  have hnx : ((n - 1 : Nat) : Int) < ((n : Nat) : Int) := by omega
  have HI := Lib.hid (And.intro hin hnn)
  have HR := Lib.hid run3
  unfold ek at hk1 d2
  unfold er at d3
  obtain ⟨p9, hp9⟩ : ∃ x, x = (el q (n - 1)).1 := ⟨_, rfl⟩
  obtain ⟨q9, hq9⟩ : ∃ x, x = (el q (n - 1)).2 := ⟨_, rfl⟩
  rw [← hp9] at d2
  rw [← hq9] at d3
  clear hq2 hfr2 hqe hqn hiv2 hB hM hSg hSb hgb hbb hgm hM3 hg3 hc1 hMd B3 o3 o4 hin hnn w1 f1 run3 hp9 hq9 hcap
  go_wp2_with fail
  refine begin' 99 (fun _ => True) hmix trivial (fun _ => ?_)
  refine later [12] (fun X => X.cell? ⟨hb, 0, none⟩ = some (.slice (some ⟨g, 0, none⟩) n cap2) ∧ X.cell? ⟨hb, 1, none⟩ = some (.map (some b)) ∧ X.cell? ⟨g, (n - 1) * 2, none⟩ = some ((.string ⟨c1.toArray⟩))) (⟨hI, hP, hk1⟩) (fun hS0 => ?_)
  refine Ht.takeS 10 (i := 0) ⟨some 15, _, _, _, _, _⟩ (.pointer (some ⟨hb, 0, none⟩)) rfl (by kernel_rfl) (by kernel_rfl) (by kernel_rfl) (by kernel_rfl) (by kernel_rfl) hS0 (Or.inl ⟨by rfl, by (intro X hX; go_simp)⟩) ?_
  simp only [Act.put, List.setIfInBounds_toArray, List.set_cons_zero, List.set_cons_succ]
  refine Ht.takeS 10 (i := 1) ⟨some 16, _, _, _, _, _⟩ (.pointer (some ⟨hb, 0, none⟩)) rfl (by kernel_rfl) (by kernel_rfl) (by kernel_rfl) (by kernel_rfl) (by kernel_rfl) hS0 (Or.inl ⟨by rfl, by (intro X hX; go_simp)⟩) ?_
  simp only [Act.put, List.setIfInBounds_toArray, List.set_cons_zero, List.set_cons_succ]
  refine Ht.takeS 10 (i := 2) ⟨some 17, _, _, _, _, _⟩ (.pointer (some ⟨hb, 1, none⟩)) rfl (by kernel_rfl) (by kernel_rfl) (by kernel_rfl) (by kernel_rfl) (by kernel_rfl) hS0 (Or.inl ⟨by rfl, by (intro X hX; go_simp)⟩) ?_
  simp only [Act.put, List.setIfInBounds_toArray, List.set_cons_zero, List.set_cons_succ]
  refine Ht.takeS 10 (i := 3) ⟨some 18, _, _, _, _, _⟩ (.map (some b)) rfl (by kernel_rfl) (by kernel_rfl) (by kernel_rfl) (by kernel_rfl) (by kernel_rfl) hS0 (Or.inl ⟨by rfl, by (intro X hX; have := hX.2.1; go_simp)⟩) ?_
  simp only [Act.put, List.setIfInBounds_toArray, List.set_cons_zero, List.set_cons_succ]
  refine Ht.takeS 10 (i := 4) ⟨some 19, _, _, _, _, _⟩ (.pointer (some ⟨hb, 0, none⟩)) rfl (by kernel_rfl) (by kernel_rfl) (by kernel_rfl) (by kernel_rfl) (by kernel_rfl) hS0 (Or.inl ⟨by rfl, by (intro X hX; go_simp)⟩) ?_
  simp only [Act.put, List.setIfInBounds_toArray, List.set_cons_zero, List.set_cons_succ]
  refine Ht.takeS 10 (i := 5) ⟨some 20, _, _, _, _, _⟩ (.pointer (some ⟨hb, 0, none⟩)) rfl (by kernel_rfl) (by kernel_rfl) (by kernel_rfl) (by kernel_rfl) (by kernel_rfl) hS0 (Or.inl ⟨by rfl, by (intro X hX; go_simp)⟩) ?_
  simp only [Act.put, List.setIfInBounds_toArray, List.set_cons_zero, List.set_cons_succ]
  refine Ht.takeS 10 (i := 6) ⟨some 21, _, _, _, _, _⟩ (.pointer (some ⟨hb, 0, none⟩)) rfl (by kernel_rfl) (by kernel_rfl) (by kernel_rfl) (by kernel_rfl) (by kernel_rfl) hS0 (Or.inl ⟨by rfl, by (intro X hX; go_simp)⟩) ?_
  simp only [Act.put, List.setIfInBounds_toArray, List.set_cons_zero, List.set_cons_succ]
  refine Ht.takeS 10 (i := 7) ⟨some 22, _, _, _, _, _⟩ (.slice (some ⟨g, 0, none⟩) n cap2) rfl (by kernel_rfl) (by kernel_rfl) (by kernel_rfl) (by kernel_rfl) (by kernel_rfl) hS0 (Or.inl ⟨by rfl, by (intro X hX; have := hX.1; go_simp)⟩) ?_
  simp only [Act.put, List.setIfInBounds_toArray, List.set_cons_zero, List.set_cons_succ]
  refine Ht.takeS 10 (i := 8) ⟨some 23, _, _, _, _, _⟩ (.int .i64 ((n - 1 : Nat) : Int)) rfl (by kernel_rfl) (by kernel_rfl) (by kernel_rfl) (by kernel_rfl) (by kernel_rfl) hS0 (Or.inl ⟨by rfl, by (intro X hX; go_simp)⟩) ?_
  simp only [Act.put, List.setIfInBounds_toArray, List.set_cons_zero, List.set_cons_succ]
  refine Ht.takeS 10 (i := 9) ⟨some 24, _, _, _, _, _⟩ (.pointer (some ⟨g, (n - 1) * 2, none⟩)) rfl (by kernel_rfl) (by kernel_rfl) (by kernel_rfl) (by kernel_rfl) (by kernel_rfl) hS0 (Or.inl ⟨by rfl, by (intro X hX; go_simp)⟩) ?_
  simp only [Act.put, List.setIfInBounds_toArray, List.set_cons_zero, List.set_cons_succ]
  refine Ht.takeS 10 (i := 10) ⟨some 25, _, _, _, _, _⟩ (.pointer (some ⟨g, (n - 1) * 2, none⟩)) rfl (by kernel_rfl) (by kernel_rfl) (by kernel_rfl) (by kernel_rfl) (by kernel_rfl) hS0 (Or.inl ⟨by rfl, by (intro X hX; go_simp)⟩) ?_
  simp only [Act.put, List.setIfInBounds_toArray, List.set_cons_zero, List.set_cons_succ]
  refine Ht.takeS 10 (i := 11) ⟨some 26, _, _, _, _, _⟩ ((.string ⟨c1.toArray⟩)) rfl (by kernel_rfl) (by kernel_rfl) (by kernel_rfl) (by kernel_rfl) (by kernel_rfl) hS0 (Or.inl ⟨by rfl, by (intro X hX; have := hX.2.2; go_simp)⟩) ?_
  simp only [Act.put, List.setIfInBounds_toArray, List.set_cons_zero, List.set_cons_succ]
  refine Ht.stepS (i := 12) ⟨none, _, _, _, _, _⟩ rfl (by kernel_rfl) (by rfl) (fun K hK => ?_)
  refine wp_delete _ _ _ _ rfl rfl rfl (by have := HR.out; unfold ek at this; exact this) ?_
  refine hK _ _ (fun hn => absurd (by decide) hn) (fun hnx => ?_)
  clear hK K hnx hI hP hk1
  try simp only [Act.put]
  refine doneS (by kernel_rfl) ?_
  by_cases hlt : i < n - 1
  · go_wp2_with fail
    obtain ⟨V5, hV5⟩ : ∃ X, X = (((V3.setCell ⟨g, (n - 1) * 2, none⟩ (.string ⟨#[]⟩)).setCell ⟨g, (n - 1) * 2 + 1, none⟩ (.int .u64 0)).setCell ⟨hb, 0, none⟩ (.slice (some ⟨g, 0, none⟩) (n - 1) cap2)) := ⟨_, rfl⟩
    rw [← hV5]
    obtain ⟨hq2, hfr2, hqe, hqn, hiv2, hB, hM, hSg, hSb, hgb, hbb, hgm, hM3, hg3, hc1⟩ := HQ.out
    rw [hiv2] at hq2
    rw [hc1] at hM3
    rw [← hqn] at hV5 hM3
    obtain ⟨h5, f5⟩ := drop_end hq2 (by have := HI.out; omega) hB hM hgb hbb hgm hM3 hg3 hV5
    have hok : Okx ltp i (q.take (q.length - 1)) := by
      have h9 := HH.out.2.1.drop (swo Hp.tot_str) (i := i) (by rw [← HL.out]; exact hlt)
      rw [← HL.out, ← hqe] at h9
      rw [hqn]; exact h9
    have hs5 := settle_any h5 (i := i) (by simp; omega) (by have := HI.out; simp; omega) hok
    have HX := Lib.hid (And.intro hs5 (And.intro hfr2 (And.intro f5 (And.intro hqe hqn))))
    clear hs5 f5 h5 hok hq2 hfr2 hqe hqn hiv2 hB hM hSg hSb hgb hbb hgm hM3 hg3 hc1 hV5
    go_wp2_with fail
    refine HX.out.1.mono ?_
    rintro e w6 ⟨rfl, l', hsx, hh'⟩
    have HY := Lib.hid (And.intro hsx hh')
    clear hsx hh'
    go_wp2_with fail
    go_end0
    obtain ⟨S', h1, h2, h3⟩ := HY.out.1.hv HY.out.2
    obtain ⟨_, hfr2, f5, hqe, hqn⟩ := HX.out
    have fa : Fr S w V5 := hfr2.trans f5 fun x hx => .inl hx
    refine ⟨rfl, q.take (q.length - 1), ⟨S', h1, fa.trans h2 fun x hx => .inl hx, fun x hx => ?_⟩, ?_⟩
    · rcases h3 x hx with h | h
      · exact .inl h
      · have := fa.size; right; omega
    · have := drop_perm l HH.out.2.2.1
      rw [← HL.out, ← hqe] at this
      rw [hqn]; exact this
  · go_wp2_with fail
    go_end0
    obtain ⟨V5, hV5⟩ : ∃ X, X = (((V3.setCell ⟨g, (n - 1) * 2, none⟩ (.string ⟨#[]⟩)).setCell ⟨g, (n - 1) * 2 + 1, none⟩ (.int .u64 0)).setCell ⟨hb, 0, none⟩ (.slice (some ⟨g, 0, none⟩) (n - 1) cap2)) := ⟨_, rfl⟩
    rw [← hV5]
    obtain ⟨hq2, hfr2, hqe, hqn, hiv2, hB, hM, hSg, hSb, hgb, hbb, hgm, hM3, hg3, hc1⟩ := HQ.out
    rw [hiv2] at hq2
    rw [hc1] at hM3
    rw [← hqn] at hV5 hM3
    obtain ⟨h5, f5⟩ := drop_end hq2 (by have := HI.out; omega) hB hM hgb hbb hgm hM3 hg3 hV5
    have hie : i = n - 1 := by have := HI.out; omega
    have hql : q = l := by rw [hqe, hie]; exact sw_self l (by have := HI.out; have := HL.out; omega)
    refine ⟨rfl, q.take (q.length - 1), ⟨S, ⟨_, _, _, _, h5, ?_, List.Perm.refl _⟩, hfr2.trans f5 fun x hx => .inl hx, fun x hx => .inl hx⟩, ?_⟩
    · rw [hql]; exact HH.out.2.1.take _
    · have := drop_perm l HH.out.2.2.1
      rw [← HL.out, ← hqe] at this
      rw [hqn]; exact this
end
end Go.Proofs.Ytomkefaakgodhaa.HpE

