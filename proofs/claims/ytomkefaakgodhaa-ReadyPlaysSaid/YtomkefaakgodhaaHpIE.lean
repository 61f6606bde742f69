
/- heaps of string and uint64: add -/
import Derived.Test.YtomkefaakgodhaaHpHE
import Derived.Test.YtomkefaakgodhaaHpGE
import Derived.Shelf.SlMaps.Clone
namespace Go.Proofs.Ytomkefaakgodhaa.HpE
open Go.RowKit Go.Lib Go.Sort Hp Ht
set_option linter.unusedVariables false
set_option maxRecDepth 20000
/-- a heap grown out of one: its blocks are that one's, or new -/
structure Gx (S : Nat → Prop) (w : World) (hb : Nat) (w' : World) (l' : List (K × Int)) : Prop where
  hq : ∃ S' iv' mv' f', Hq S' w' hb iv' mv' l' f' ∧ ∀ x, S' x → S x ∨ w.heap.size ≤ x
  fr : Fr S w w'
section
variable {S : Nat → Prop} {w : World} {hb : Nat} {iv mv : Value} {l : List (K × Int)} {f : K → Option Nat}
theorem Hq.free {k : Nat} (h : Hq S w hb iv mv l f) : w.frozen? ⟨hb, k, none⟩ = false := by simp [World.frozen?, h.obj]
theorem box2 (w : World) (x y : Value) (t : TypeId) : (w.alloc (.cells #[x, y] t)).cell? ⟨w.heap.size, 0, none⟩ = some x ∧ (w.alloc (.cells #[x, y] t)).cell? ⟨w.heap.size, 1, none⟩ = some y := by
  have h := (MapKept.heap_alloc w (.cells #[x, y] t)).1
  exact ⟨by rw [cell_of_row _ _ _ _ _ _ h]; rfl, by rw [cell_of_row _ _ _ _ _ _ h]; rfl⟩
theorem wp_append {o : Oper} {a : Act} {W W' : World} {F : Act → World → Prop} {Q : Exit → Act → World → Prop} {v u v' : Value} (s x : Operand) (t : TypeId)
    (ho : o.op = .call { callee := .builtin .append, args := #[s, x], argTypes := #[t, t] }) (hs : a.eval s = v) (hx : a.eval x = u)
    (hr : (Builtin.append_ #[t, t] o.type #[v, u]).run Try.prog W = .ok v' W') (h : F (a.put o.dst v') W') : o.wp Try.prog a W F Q := by
  unfold Oper.wp execOp
  simp only [ho, resolve, invoke, builtin, Sem.run_bind, Sem.run_pure, Result.andThen_ok, List.map_toArray, List.map_cons, List.map_nil, hs, hx, hr]
  exact h
/-- the map's block, taken for another value of the same heap -/
theorem Hq.withMap {Y : World} {b : Nat} {S2 : Nat → Prop} {f2 : K → Option Nat} {l2 : List (K × Int)} (h : Hq S w hb iv mv l f) (hobj : Y.heap[hb]? = some (.cells #[iv, .map (some b)] 76 (0, 0))) (hrow : Row Y iv l2) (hm : Mq Y b l2.length f2) (hpl : Pl f2 l2) (hkeys : ∀ x ∈ l2, wk x.1)
    (h1 : S2 hb) (h2 : ∀ b, blk iv = some b → S2 b) (h3 : S2 b) (h4 : ∀ k, S2 k → k < Y.heap.size) : Hq S2 Y hb iv (.map (some b)) l2 f2 :=
  ⟨hobj, hrow, .inr ⟨b, rfl, hm⟩, hpl, hkeys, h1, h2, fun _ e => by cases e; exact h3, h4⟩
theorem Row.lt {v : Value} {m : List (K × Int)} (h : Row w v m) {x : Nat} (hx : blk v = some x) : x < w.heap.size := by
  rcases h with ⟨_, p, rfl⟩ | ⟨g, cp, rfl, hB⟩
  · cases p <;> cases hx
  · rcases blk_own hx with h2 | h2
    · obtain rfl := Option.some.inj h2; exact hB.lt
    · cases h2
theorem first_map {V : World} {b : Nat} {x y : Value} (h : Hq S w hb iv (.map none) l f) (hl : l = []) (hnB : ¬ S w.heap.size) (hb1 : b = w.heap.size + 1) (hV : V = ((w.setCell ⟨hb, 1, none⟩ (.map (some b))).alloc (.cells #[x, y] 63)).alloc (.map #[] 0)) :
    Hq (fun x => S x ∨ x = b) V hb iv (.map (some b)) l f ∧ Fr S w V ∧ (∀ x, S x ∨ x = b → S x ∨ w.heap.size ≤ x) ∧ ¬ (S w.heap.size ∨ w.heap.size = b) ∧ V.cell? ⟨w.heap.size, 0, none⟩ = some x ∧ V.cell? ⟨w.heap.size, 1, none⟩ = some y ∧ Mq V b l.length f := by
  obtain ⟨A, hA⟩ : ∃ A, A = w.setCell ⟨hb, 1, none⟩ (.map (some b)) := ⟨_, rfl⟩
  rw [← hA] at hV
  have zA : A.heap.size = w.heap.size := by rw [hA]; simp
  have hlt := h.size hb h.own
  have hgA : w.grownBy A (some hb) := by rw [hA]; exact Lib.grownBy_setCell w hb 1 _
  obtain ⟨B, hB⟩ : ∃ B, B = A.alloc (.cells #[x, y] 63) := ⟨_, rfl⟩
  rw [← hB] at hV
  have zB : B.heap.size = w.heap.size + 1 := by rw [hB]; simp [zA]
  have hbB : Below A.heap.size A B := by rw [hB]; exact (Below.refl _ A).alloc (Nat.le_refl _) _
  have hbV : Below B.heap.size B V := by rw [hV]; exact (Below.refl _ B).alloc (Nat.le_refl _) _
  have zV : V.heap.size = w.heap.size + 2 := by rw [hV]; simp [zB]
  have oA : A.heap[hb]? = some (.cells #[iv, .map (some b)] 76 (0, 0)) := by rw [hA, Lib.heap_setCell_same h.obj]; rfl
  have oV : V.heap[hb]? = some (.cells #[iv, .map (some b)] 76 (0, 0)) := (hbV.block hb (by omega)).trans ((hbB.block hb (by omega)).trans oA)
  have bx := box2 A x y 63
  rw [← hB, zA] at bx
  have hM0 : Mp Try.prog 9 3 .i64 kl wk V b 0 (fun _ => none) := by
    have := mp_made kind B
    rw [← hV, zB, ← hb1] at this
    exact this
  have hM : Mq V b l.length f := by
    subst hl
    refine hM0.congr fun k hk => ?_
    cases e : f k with
    | none => simp [mf, e]
    | some i => have := ((h.pl k i).1 e).1; simp at this
  have kept : ∀ x, x < w.heap.size → x ≠ hb → V.heap[x]? = w.heap[x]? := fun x hx hxh => (hbV.block x (by omega)).trans ((hbB.block x (by omega)).trans (hgA.block x hx (fun e => hxh (Option.some.inj e))))
  have hrow : Row V iv l := h.row.kept fun g hg => kept g (h.size g (h.ownI g hg)) (fun e => by
    subst e
    have := h.row
    rcases this with ⟨_, p, h1⟩ | ⟨g2, cp, h1, hB2⟩
    · rw [h1] at hg; cases p <;> cases hg
    · obtain ⟨cur, c1, _⟩ := hB2.here
      rcases blk_own hg with h2 | h2
      · rw [h1] at h2; obtain rfl := Option.some.inj h2; rw [h.obj] at c1; cases c1
      · rw [h1] at h2; cases h2)
  refine ⟨⟨oV, hrow, .inr ⟨b, rfl, hM⟩, h.pl, h.keys, .inl h.own, fun x hx => .inl (h.ownI x hx), fun x hx => .inr (by cases hx; rfl), ?_⟩, ?_, ?_, ?_, ?_, ?_, hM⟩
  · rintro z (hz | hz)
    · have := h.size z hz; omega
    · omega
  · exact ((Fr.grown hgA (.inl h.own)).trans (Fr.of_below (S := S) hbB) fun x hx => .inl hx).trans (Fr.of_below (S := S) hbV) fun x hx => .inl hx
  · rintro z (hz | hz)
    · exact .inl hz
    · right; omega
  · rintro (hz | hz)
    · exact hnB hz
    · omega
  · exact (hbV.cell (p := ⟨w.heap.size, 0, none⟩) (by simp; omega)).trans bx.1
  · exact (hbV.cell (p := ⟨w.heap.size, 1, none⟩) (by simp; omega)).trans bx.2
theorem add_end {S2 : Nat → Prop} {V V3 V4 V5 V6 : World} {b : Nat} {k : K} {r : Int} {iv5 : Value} (hq : Hq S2 V hb iv (.map (some b)) l f) (fr : Fr S w V) (sub : ∀ x, S2 x → S x ∨ w.heap.size ≤ x) (hf : f k = none) (hk : wk k)
    (hM3 : Mp Try.prog 9 3 .i64 kl wk V3 b (if (none : Option Nat).isSome = true then l.length else l.length + 1) (upd (mf f) k ((l.length : Nat) : Int))) (hg3 : V.drew.grownBy V3 (some b)) (hb4 : Below V3.heap.size V3 V4) (hg5 : V4.grownBy V5 (blk iv))
    (hrow5 : Row V5 iv5 (l ++ [(k, r)])) (hbl5 : ∀ x, blk iv5 = some x → blk iv = some x ∨ V4.heap.size ≤ x) (hne : hb ≠ b) (hnh : blk iv ≠ some hb) (hnb : blk iv ≠ some b) (h6 : V6 = V5.setCell ⟨hb, 0, none⟩ iv5) : Gx S w hb V6 (l ++ [(k, r)]) := by
  have hg3' : V.grownBy V3 (some b) := ⟨hg3.os, hg3.tape, hg3.output, hg3.size, hg3.block⟩
  have z3 := hg3'.size
  have z4 := hb4.size
  have z5 := hg5.size
  have z6 : V6.heap.size = V5.heap.size := by rw [h6]; simp
  have zh := hq.size hb hq.own
  have zb := hq.size b (hq.ownM b rfl)
  have o3 : V3.heap[hb]? = V.heap[hb]? := hg3'.block hb zh (fun e => hne (Option.some.inj e))
  have o4 : V4.heap[hb]? = V3.heap[hb]? := hb4.block hb (by omega)
  have o5 : V5.heap[hb]? = V4.heap[hb]? := hg5.block hb (by omega) (fun e => hnh e.symm)
  have o6 : V6.heap[hb]? = some (.cells #[iv5, .map (some b)] 76 (0, 0)) := by
    rw [h6, Lib.heap_setCell_same (o5.trans (o4.trans (o3.trans hq.obj)))]; rfl
  have oth : ∀ x, x ≠ hb → V6.heap[x]? = V5.heap[x]? := fun x hx => by rw [h6]; exact heap_setCell_other _ _ _ _ hx
  have m6 : V6.heap[b]? = V3.heap[b]? := (oth b hne.symm).trans ((hg5.block b (by omega) (fun e => hnb e.symm)).trans (hb4.block b (by omega)))
  have hr6 : Row V6 iv5 (l ++ [(k, r)]) := hrow5.kept fun g hg => oth g (fun e => by
    subst e
    rcases hbl5 g hg with h | h
    · exact hnh h
    · omega)
  have f3 : Fr S2 V V3 := Fr.grown hg3' (.inl (hq.ownM b rfl))
  have f4 : Fr S2 V3 V4 := Fr.of_below hb4
  have f5 : Fr S2 V4 V5 := Fr.grownN hg5 fun x hx => .inl (hq.ownI x hx)
  have f6 : Fr S2 V5 V6 := by rw [h6]; exact Fr.grown (Lib.grownBy_setCell V5 hb 0 iv5) (.inl hq.own)
  have fv : Fr S2 V V6 := ((f3.trans f4 fun x hx => .inl hx).trans f5 fun x hx => .inl hx).trans f6 fun x hx => .inl hx
  have hlen : (l ++ [(k, r)]).length = l.length + 1 := by simp
  have zV := fr.size
  refine ⟨⟨fun x => S2 x ∨ blk iv5 = some x, iv5, .map (some b), upd f k l.length, ?_, ?_⟩, fr.trans fv sub⟩
  · refine ⟨o6, hr6, .inr ⟨b, rfl, ?_⟩, hq.pl.app hf r, ?_, .inl hq.own, fun x hx => .inr hx, fun x hx => .inl (by cases hx; exact hq.ownM b rfl), ?_⟩
    · rw [hlen]
      have : Mq V3 b (l.length + 1) (upd f k l.length) := by rw [Mq, mf_upd]; exact hM3
      exact this.kept m6
    · intro x hx
      rcases List.mem_append.1 hx with hx | hx
      · exact hq.keys x hx
      · obtain rfl := List.mem_singleton.1 hx; exact hk
    · rintro x (hx | hx)
      · have := hq.size x hx; omega
      · exact hr6.lt hx
  · rintro x (hx | hx)
    · exact sub x hx
    · rcases hbl5 x hx with h | h
      · exact sub x (hq.ownI x h)
      · right; omega
set_option maxHeartbeats 1000000 in
theorem add_any (h : Hq S w hb iv mv l f) {k : K} (hk : wk k) (r : Int) (hf : f k = none) (hn : l.length < 1000000) :
    Calls Try.prog 35 #[.pointer (some ⟨hb, 0, none⟩), .agg #[ek k, er r]] w fun e w' => e = .returned (.int .i64 ((l.length : Nat) : Int)) ∧ Gx S w hb w' (l ++ [(k, r)]) := by
  have hmix : Try.prog.follows .mixedOrders = true := by kernel_rfl
  have hmk := @run_makeMap Try.prog
  have hq := fun W p => run_eql_map_nil_sl (P := Try.prog) W 74 _ _ p Try.underlying74
  have hI := h.items
  have hP := h.places
  have hfz := h.free (k := 1)
  have hlt := h.size hb h.own
  obtain ⟨x1, x2⟩ := box2 w (ek k) (er r) 63
  have HK := Lib.hid (And.intro hk (And.intro hf (And.intro hn True.intro)))
  have hsb := (Below.refl w.heap.size w).alloc (Nat.le_refl _) (.cells #[ek k, er r] 63)
  have hsz : (w.alloc (.cells #[ek k, er r] 63)).heap.size = w.heap.size + 1 := by simp
  have hnB : ¬ S w.heap.size := fun e => by have := h.size _ e; omega
  rcases h.map with ⟨rfl, hl⟩ | ⟨b, rfl, hM⟩
  · have HH := Lib.hid (And.intro h (And.intro hl (And.intro hsb (And.intro hsz (And.intro hnB (And.intro x1 x2))))))
    clear h hf hn hk hl hsb hsz hnB x1 x2
    go_enter Try.func35, Try.ntmps35
    go_wp2_with fail
    obtain ⟨b, hbb⟩ : ∃ b, b = w.heap.size + 1 := ⟨_, rfl⟩
    rw [← hbb]
    obtain ⟨V, hV⟩ : ∃ V, V = ((w.setCell ⟨hb, 1, none⟩ (.map (some b))).alloc (.cells #[ek k, er r] 63)).alloc (.map #[] 0) := ⟨_, rfl⟩
    rw [← hV]
    obtain ⟨S2, hS2⟩ : ∃ S2 : Nat → Prop, S2 = fun x => S x ∨ x = b := ⟨_, rfl⟩
    have HV : RowKit.Hid (Hq S2 V hb iv (.map (some b)) l f ∧ Fr S w V ∧ (∀ x, S2 x → S x ∨ w.heap.size ≤ x) ∧ ¬ S2 w.heap.size ∧ V.cell? ⟨w.heap.size, 0, none⟩ = some (ek k) ∧ V.cell? ⟨w.heap.size, 1, none⟩ = some (er r) ∧ Mq V b l.length f) := by
      rw [hS2]
      exact first_map HH.out.1 HH.out.2.1 HH.out.2.2.2.2.1 hbb hV
    clear HH hI hP hfz hV hS2 hlt hq hmk hbb
    obtain ⟨hqV, frV, sub, nB, c1, c2, hMV⟩ := HV.out
    have hi1 := hqV.items
    have hp1 := hqV.places
    obtain ⟨a, cap, hiv, hcap⟩ := hqV.shape
    have HIV := Lib.hid hiv
    rw [hiv] at hi1
    obtain ⟨n, hln⟩ : ∃ n, n = l.length := ⟨_, rfl⟩
    rw [← hln] at hi1 hMV hcap
    have hMd : Mq V.drew b n f := hMV.kept rfl
    obtain ⟨V3, run3, hM3, hg3⟩ := hMd.put kind (by have := HK.out.2.2.1; unfold maxLen; omega) HK.out.1 (wf_nat (i := n) (by have := HK.out.2.2.1; omega))
    rw [mf_some, HK.out.2.1] at hM3
    have hbV := hqV.size hb hqV.own
    have hbbV := hqV.size b (hqV.ownM b rfl)
    have hne : hb ≠ b := fun e => by obtain ⟨es, c, hm⟩ := hMV.at; rw [← e, hqV.obj] at hm; cases hm
    have o3 : V3.heap[hb]? = V.heap[hb]? := hg3.block hb hbV (fun e => hne (Option.some.inj e))
    have hBl : w.heap.size < V.heap.size := World.block_lt_of_cell? _ _ c1
    have o4 : V3.heap[w.heap.size]? = V.heap[w.heap.size]? := hg3.block _ hBl (fun e => nB ((Option.some.inj e) ▸ hqV.ownM b rfl))
    have d1 : V3.cell? ⟨hb, 0, none⟩ = some (.slice a n cap) := by rw [hln, ← HIV.out, cell_of_row V3 hb 0 _ _ _ (o3.trans hqV.obj)]; rfl
    have d2 : V3.cell? ⟨w.heap.size, 0, none⟩ = some (ek k) := by rw [← c1]; unfold World.cell?; rw [o4]
    have d3 : V3.cell? ⟨w.heap.size, 1, none⟩ = some (er r) := by rw [← c2]; unfold World.cell?; rw [o4]
    have d4 : V3.frozen? ⟨hb, 0, none⟩ = false := by simp [World.frozen?, o3, hqV.obj]
    have hs3 := hg3.size
    have HV3 := Lib.hid (And.intro hM3 (And.intro hg3 (And.intro o3 (And.intro hbV hne))))
    have HL := Lib.hid hln
    have hb3 : hb < V3.heap.size := Nat.lt_of_lt_of_le hbV hs3
    have hB3 : w.heap.size < V3.heap.size := Nat.lt_of_lt_of_le hBl hs3
    clear hqV frV sub nB hMV hMd hM3 hg3 o3 o4 hbV hbbV hne hBl hiv hln hs3
    refine begin' 99 (fun _ => True) hmix trivial (fun _ => ?_)
    refine later [11] (fun X => X.cell? ⟨hb, 0, none⟩ = some (.slice a n cap) ∧ X.cell? ⟨hb, 1, none⟩ = some (.map (some b)) ∧ X.cell? ⟨w.heap.size, 0, none⟩ = some (ek k)) (⟨hi1, hp1, c1⟩) (fun hS0 => ?_)
    refine Ht.takeS 10 (i := 0) ⟨some 14, _, _, _, _, _⟩ (.pointer (some ⟨hb, 0, none⟩)) rfl (by kernel_rfl) (by kernel_rfl) (by kernel_rfl) (by kernel_rfl) (by kernel_rfl) hS0 (Or.inl ⟨by rfl, by (intro X hX; go_simp)⟩) ?_
    simp only [Act.put, List.setIfInBounds_toArray, List.set_cons_zero, List.set_cons_succ]
    refine Ht.takeS 10 (i := 1) ⟨some 15, _, _, _, _, _⟩ (.pointer (some ⟨hb, 0, none⟩)) rfl (by kernel_rfl) (by kernel_rfl) (by kernel_rfl) (by kernel_rfl) (by kernel_rfl) hS0 (Or.inl ⟨by rfl, by (intro X hX; go_simp)⟩) ?_
    simp only [Act.put, List.setIfInBounds_toArray, List.set_cons_zero, List.set_cons_succ]
    refine Ht.takeS 10 (i := 2) ⟨some 16, _, _, _, _, _⟩ (.pointer (some ⟨hb, 1, none⟩)) rfl (by kernel_rfl) (by kernel_rfl) (by kernel_rfl) (by kernel_rfl) (by kernel_rfl) hS0 (Or.inl ⟨by rfl, by (intro X hX; go_simp)⟩) ?_
    simp only [Act.put, List.setIfInBounds_toArray, List.set_cons_zero, List.set_cons_succ]
    refine Ht.takeS 10 (i := 3) ⟨some 17, _, _, _, _, _⟩ (.map (some b)) rfl (by kernel_rfl) (by kernel_rfl) (by kernel_rfl) (by kernel_rfl) (by kernel_rfl) hS0 (Or.inl ⟨by rfl, by (intro X hX; have := hX.2.1; go_simp)⟩) ?_
    simp only [Act.put, List.setIfInBounds_toArray, List.set_cons_zero, List.set_cons_succ]
    refine Ht.takeS 10 (i := 4) ⟨some 18, _, _, _, _, _⟩ (.pointer (some ⟨w.heap.size, 0, none⟩)) rfl (by kernel_rfl) (by kernel_rfl) (by kernel_rfl) (by kernel_rfl) (by kernel_rfl) hS0 (Or.inl ⟨by rfl, by (intro X hX; go_simp)⟩) ?_
    simp only [Act.put, List.setIfInBounds_toArray, List.set_cons_zero, List.set_cons_succ]
    refine Ht.takeS 10 (i := 5) ⟨some 19, _, _, _, _, _⟩ (ek k) rfl (by kernel_rfl) (by kernel_rfl) (by kernel_rfl) (by kernel_rfl) (by kernel_rfl) hS0 (Or.inl ⟨by rfl, by (intro X hX; have := hX.2.2; go_simp)⟩) ?_
    simp only [Act.put, List.setIfInBounds_toArray, List.set_cons_zero, List.set_cons_succ]
    refine Ht.takeS 10 (i := 6) ⟨some 20, _, _, _, _, _⟩ (.pointer (some ⟨hb, 0, none⟩)) rfl (by kernel_rfl) (by kernel_rfl) (by kernel_rfl) (by kernel_rfl) (by kernel_rfl) hS0 (Or.inl ⟨by rfl, by (intro X hX; go_simp)⟩) ?_
    simp only [Act.put, List.setIfInBounds_toArray, List.set_cons_zero, List.set_cons_succ]
    refine Ht.takeS 10 (i := 7) ⟨some 21, _, _, _, _, _⟩ (.pointer (some ⟨hb, 0, none⟩)) rfl (by kernel_rfl) (by kernel_rfl) (by kernel_rfl) (by kernel_rfl) (by kernel_rfl) hS0 (Or.inl ⟨by rfl, by (intro X hX; go_simp)⟩) ?_
    simp only [Act.put, List.setIfInBounds_toArray, List.set_cons_zero, List.set_cons_succ]
    refine Ht.takeS 10 (i := 8) ⟨some 22, _, _, _, _, _⟩ (.pointer (some ⟨hb, 0, none⟩)) rfl (by kernel_rfl) (by kernel_rfl) (by kernel_rfl) (by kernel_rfl) (by kernel_rfl) hS0 (Or.inl ⟨by rfl, by (intro X hX; go_simp)⟩) ?_
    simp only [Act.put, List.setIfInBounds_toArray, List.set_cons_zero, List.set_cons_succ]
    refine Ht.takeS 10 (i := 9) ⟨some 23, _, _, _, _, _⟩ (.slice a n cap) rfl (by kernel_rfl) (by kernel_rfl) (by kernel_rfl) (by kernel_rfl) (by kernel_rfl) hS0 (Or.inl ⟨by rfl, by (intro X hX; have := hX.1; go_simp)⟩) ?_
    simp only [Act.put, List.setIfInBounds_toArray, List.set_cons_zero, List.set_cons_succ]
    refine Ht.takeS 10 (i := 10) ⟨some 24, _, _, _, _, _⟩ (.int .i64 ((n : Nat) : Int)) rfl (by kernel_rfl) (by kernel_rfl) (by kernel_rfl) (by kernel_rfl) (by kernel_rfl) hS0 (Or.inl ⟨by rfl, by (intro X hX; go_simp)⟩) ?_
    simp only [Act.put, List.setIfInBounds_toArray, List.set_cons_zero, List.set_cons_succ]
    refine Ht.stepS (i := 11) ⟨none, _, _, _, _, _⟩ rfl (by kernel_rfl) (by rfl) (fun K hK => ?_)
    go_simp
    refine hK _ _ (fun hn => absurd (by decide) hn) (fun hnx => ?_)
    clear hK K hnx
    try simp only [Act.put, List.setIfInBounds_toArray, List.set_cons_zero, List.set_cons_succ]
    refine doneS (by kernel_rfl) ?_
    clear hi1 hp1 c1 c2 hS0 run3
    go_wp2_with fail
    refine begin' 99 (fun _ => True) hmix trivial (fun _ => ?_)
    refine Ht.takeN (i := 0) ⟨some 25, _, _, _, _, _⟩ (.pointer (some ⟨hb, 0, none⟩)) rfl (Nat.le_of_ble_eq_true (by kernel_rfl)) (by kernel_rfl) (by kernel_rfl) (by kernel_rfl) (by kernel_rfl) trivial (Or.inl ⟨by rfl, by (intro X hX; go_simp)⟩) ?_
    simp only [Act.put, List.setIfInBounds_toArray, List.set_cons_zero, List.set_cons_succ]
    refine later [7, 8, 9, 10] (fun X => X.cell? ⟨hb, 0, none⟩ = some (.slice a n cap) ∧ X.cell? ⟨w.heap.size, 0, none⟩ = some (ek k) ∧ X.cell? ⟨w.heap.size, 1, none⟩ = some (er r)) (⟨d1, d2, d3⟩) (fun hS0 => ?_)
    refine Ht.takeS 10 (i := 1) ⟨some 26, _, _, _, _, _⟩ (.pointer (some ⟨hb, 0, none⟩)) rfl (by kernel_rfl) (by kernel_rfl) (by kernel_rfl) (by kernel_rfl) (by kernel_rfl) hS0 (Or.inl ⟨by rfl, by (intro X hX; go_simp)⟩) ?_
    simp only [Act.put, List.setIfInBounds_toArray, List.set_cons_zero, List.set_cons_succ]
    refine Ht.takeS 10 (i := 2) ⟨some 27, _, _, _, _, _⟩ (.pointer (some ⟨hb, 0, none⟩)) rfl (by kernel_rfl) (by kernel_rfl) (by kernel_rfl) (by kernel_rfl) (by kernel_rfl) hS0 (Or.inl ⟨by rfl, by (intro X hX; go_simp)⟩) ?_
    simp only [Act.put, List.setIfInBounds_toArray, List.set_cons_zero, List.set_cons_succ]
    refine Ht.takeS 10 (i := 3) ⟨some 28, _, _, _, _, _⟩ (.pointer (some ⟨hb, 0, none⟩)) rfl (by kernel_rfl) (by kernel_rfl) (by kernel_rfl) (by kernel_rfl) (by kernel_rfl) hS0 (Or.inl ⟨by rfl, by (intro X hX; go_simp)⟩) ?_
    simp only [Act.put, List.setIfInBounds_toArray, List.set_cons_zero, List.set_cons_succ]
    refine Ht.takeS 10 (i := 4) ⟨some 29, _, _, _, _, _⟩ (.slice a n cap) rfl (by kernel_rfl) (by kernel_rfl) (by kernel_rfl) (by kernel_rfl) (by kernel_rfl) hS0 (Or.inl ⟨by rfl, by (intro X hX; have := hX.1; go_simp)⟩) ?_
    simp only [Act.put, List.setIfInBounds_toArray, List.set_cons_zero, List.set_cons_succ]
    refine Ht.takeS 10 (i := 5) ⟨some 30, _, _, _, _, _⟩ (.agg #[ek k, er r]) rfl (by kernel_rfl) (by kernel_rfl) (by kernel_rfl) (by kernel_rfl) (by kernel_rfl) hS0 (Or.inl ⟨by rfl, by (intro X hX; have := And.intro hX.2.1 hX.2.2; go_simp)⟩) ?_
    simp only [Act.put, List.setIfInBounds_toArray, List.set_cons_zero, List.set_cons_succ]
    refine Ht.stepS (i := 6) ⟨some 31, _, _, _, _, _⟩ rfl (by kernel_rfl) (by rfl) (fun K hK => ?_)
    go_simp
    obtain ⟨V4, hV4⟩ : ∃ V, V = (V3.alloc (.cells #[ek k, er r] 63)).drew := ⟨_, rfl⟩
    rw [← hV4]
    have hb4 : Below V3.heap.size V3 V4 := by rw [hV4]; exact ((Below.refl V3.heap.size V3).alloc (Nat.le_refl _) _).drew
    have e1 := (hb4.cell (p := ⟨hb, 0, none⟩) hb3).trans d1
    have e2 := (hb4.cell (p := ⟨w.heap.size, 0, none⟩) hB3).trans d2
    have e3 := (hb4.cell (p := ⟨w.heap.size, 1, none⟩) hB3).trans d3
    have e4 := (hb4.frozen (p := ⟨hb, 0, none⟩) hb3).trans d4
    have e5 : ∀ j u, (cs [(k, r)])[j]? = some u → V4.cell? ((⟨V3.heap.size, 0, none⟩ : Addr).add j) = some u := by
      intro j u hu
      have hx := box2 V3 (ek k) (er r) 63
      rw [hV4]
      match j, hu with
      | 0, hu => exact hx.1.trans hu
      | 1, hu => exact hx.2.trans hu
    refine hK _ _ (fun hn => ⟨e1, e2, e3⟩) (fun hnx => ?_)
    clear hK K hnx d1 d2 d3 d4 e2 e3 hS0
    try simp only [Act.put, List.setIfInBounds_toArray, List.set_cons_zero, List.set_cons_succ]
    obtain ⟨hqV, frV, sub, nB, c1, c2, hMV⟩ := HV.out
    obtain ⟨hM3, hg3, o3, hbV, hne⟩ := HV3.out
    have hnb : blk iv ≠ some b := fun e => by
      obtain ⟨es, c, hm⟩ := hMV.at
      rcases hqV.row with ⟨_, p, h1⟩ | ⟨g, cp, h1, hB⟩
      · rw [h1] at e; cases p <;> cases e
      · obtain ⟨cur, c1, _⟩ := hB.here
        rcases blk_own e with h2 | h2
        · rw [h1] at h2; obtain rfl := Option.some.inj h2; rw [hm] at c1; cases c1
        · rw [h1] at h2; cases h2
    have hnh : blk iv ≠ some hb := fun e => by
      rcases hqV.row with ⟨_, p, h1⟩ | ⟨g, cp, h1, hB⟩
      · rw [h1] at e; cases p <;> cases e
      · obtain ⟨cur, c1, _⟩ := hB.here
        rcases blk_own e with h2 | h2
        · rw [h1] at h2; obtain rfl := Option.some.inj h2; rw [hqV.obj] at c1; cases c1
        · rw [h1] at h2; cases h2
    have hk34 : ∀ x, x < V.heap.size → x ≠ b → V4.heap[x]? = V.heap[x]? := fun x hx hxb => (hb4.block x (Nat.lt_of_lt_of_le hx hg3.size)).trans (hg3.block x hx (fun e => hxb (Option.some.inj e)))
    have hrow4 : Row V4 iv l := hqV.row.kept fun g hg => hk34 g (hqV.size g (hqV.ownI g hg)) (fun e => hnb (e ▸ hg))
    obtain ⟨ao, cp, V5, run5, hrow5, hg5, hbl5⟩ := row_append V4 hrow4 (by have := HK.out.2.2.1; omega) (k, r) ⟨V3.heap.size, 0, none⟩ 1 e5 73
    rw [HIV.out, ← HL.out] at run5
    rw [← HL.out] at hrow5 hbl5
    have e6 : V5.heap[hb]? = V4.heap[hb]? := hg5.block hb (Nat.lt_of_lt_of_le hb3 hb4.size) (fun e => hnh e.symm)
    have e7 : V5.cell? ⟨hb, 0, none⟩ = some (.slice a n cap) := by rw [← e1]; unfold World.cell?; rw [e6]
    have e8 : V5.frozen? ⟨hb, 0, none⟩ = false := by rw [← e4]; simp [World.frozen?, e6]
    have HZ := Lib.hid (And.intro hg5 (And.intro hrow5 (And.intro hbl5 (And.intro hk34 (And.intro hb4 (And.intro hnh hnb))))))
    clear hqV frV sub nB c1 c2 hMV hM3 hg3 o3 hbV hne hk34 hrow4 hg5 hrow5 hbl5 hnh hnb hb4 e4 e5 e6 e1 hV4
    refine Ht.stepS (i := 7) ⟨some 32, _, _, _, _, _⟩ rfl (by kernel_rfl) (by rfl) (fun K hK => ?_)
    refine wp_append _ _ _ rfl rfl rfl run5 ?_
    refine hK _ _ (fun hn => absurd (by decide) hn) (fun hnx => ?_)
    clear hK K hnx run5
    simp only [Act.put, List.setIfInBounds_toArray, List.set_cons_zero, List.set_cons_succ]
    refine Ht.stepS (i := 8) ⟨some 33, _, _, _, _, _⟩ rfl (by kernel_rfl) (by rfl) (fun K hK => ?_)
    go_simp
    refine hK _ _ (fun hn => absurd (by decide) hn) (fun hnx => ?_)
    clear hK K hnx
    try simp only [Act.put, List.setIfInBounds_toArray, List.set_cons_zero, List.set_cons_succ]
    refine Ht.stepS (i := 9) ⟨some 34, _, _, _, _, _⟩ rfl (by kernel_rfl) (by rfl) (fun K hK => ?_)
    go_simp
    refine hK _ _ (fun hn => absurd (by decide) hn) (fun hnx => ?_)
    clear hK K hnx
    try simp only [Act.put, List.setIfInBounds_toArray, List.set_cons_zero, List.set_cons_succ]
    refine Ht.stepS (i := 10) ⟨none, _, _, _, _, _⟩ rfl (by kernel_rfl) (by rfl) (fun K hK => ?_)
    go_simp
    refine hK _ _ (fun hn => absurd (by decide) hn) (fun hnx => ?_)
    clear hK K hnx
    try simp only [Act.put, List.setIfInBounds_toArray, List.set_cons_zero, List.set_cons_succ]
    refine doneS (by kernel_rfl) ?_
    have w0 : wrap64 ((n : Nat) : Int) = ((n : Nat) : Int) := by have := HK.out.2.2.1; have := HL.out; unfold wrap64; omega
    go_wp2_with fail
    go_ret
    obtain ⟨hqV, frV, sub, nB, c1, c2, hMV⟩ := HV.out
    obtain ⟨hM3, hg3, o3, hbV, hne⟩ := HV3.out
    obtain ⟨hg5, hrow5, hbl5, hk34, hb4, hnh, hnb⟩ := HZ.out
    have hln := HL.out
    refine ⟨by rw [← hln]; simp [w0], ?_⟩
    exact add_end (iv5 := .slice ao (n + 1) cp) hqV frV sub HK.out.2.1 HK.out.1 (by rw [← hln]; exact hM3) hg3 hb4 hg5 hrow5 hbl5 hne hnh hnb rfl
  · have HH := Lib.hid (And.intro h (And.intro hM (And.intro hsb (And.intro hsz (And.intro hnB (And.intro x1 x2))))))
    clear h hf hn hk hM hsb hsz hnB x1 x2
    go_enter Try.func35, Try.ntmps35
    go_wp2_with fail
    obtain ⟨V, hV⟩ : ∃ V, V = w.alloc (.cells #[ek k, er r] 63) := ⟨_, rfl⟩
    rw [← hV]
    obtain ⟨S2, hS2⟩ : ∃ S2, S2 = S := ⟨_, rfl⟩
    have HV : RowKit.Hid (Hq S2 V hb iv (.map (some b)) l f ∧ Fr S w V ∧ (∀ x, S2 x → S x ∨ w.heap.size ≤ x) ∧ ¬ S2 w.heap.size ∧ V.cell? ⟨w.heap.size, 0, none⟩ = some (ek k) ∧ V.cell? ⟨w.heap.size, 1, none⟩ = some (er r) ∧ Mq V b l.length f) := by
      obtain ⟨h, hM, hsb, hsz, hnB, x1, x2⟩ := HH.out
      refine Lib.hid ?_
      rw [hV, hS2]
      exact ⟨h.old hsb, Fr.of_below hsb, fun x hx => .inl hx, hnB, x1, x2, hM.kept (hsb.block b (h.size b (h.ownM b rfl)))⟩
    clear HH hI hP hfz hV hS2 hlt hq hmk
    obtain ⟨hqV, frV, sub, nB, c1, c2, hMV⟩ := HV.out
    have hi1 := hqV.items
    have hp1 := hqV.places
    obtain ⟨a, cap, hiv, hcap⟩ := hqV.shape
    have HIV := Lib.hid hiv
    rw [hiv] at hi1
    obtain ⟨n, hln⟩ : ∃ n, n = l.length := ⟨_, rfl⟩
    rw [← hln] at hi1 hMV hcap
    have hMd : Mq V.drew b n f := hMV.kept rfl
    obtain ⟨V3, run3, hM3, hg3⟩ := hMd.put kind (by have := HK.out.2.2.1; unfold maxLen; omega) HK.out.1 (wf_nat (i := n) (by have := HK.out.2.2.1; omega))
    rw [mf_some, HK.out.2.1] at hM3
    have hbV := hqV.size hb hqV.own
    have hbbV := hqV.size b (hqV.ownM b rfl)
    have hne : hb ≠ b := fun e => by obtain ⟨es, c, hm⟩ := hMV.at; rw [← e, hqV.obj] at hm; cases hm
    have o3 : V3.heap[hb]? = V.heap[hb]? := hg3.block hb hbV (fun e => hne (Option.some.inj e))
    have hBl : w.heap.size < V.heap.size := World.block_lt_of_cell? _ _ c1
    have o4 : V3.heap[w.heap.size]? = V.heap[w.heap.size]? := hg3.block _ hBl (fun e => nB ((Option.some.inj e) ▸ hqV.ownM b rfl))
    have d1 : V3.cell? ⟨hb, 0, none⟩ = some (.slice a n cap) := by rw [hln, ← HIV.out, cell_of_row V3 hb 0 _ _ _ (o3.trans hqV.obj)]; rfl
    have d2 : V3.cell? ⟨w.heap.size, 0, none⟩ = some (ek k) := by rw [← c1]; unfold World.cell?; rw [o4]
    have d3 : V3.cell? ⟨w.heap.size, 1, none⟩ = some (er r) := by rw [← c2]; unfold World.cell?; rw [o4]
    have d4 : V3.frozen? ⟨hb, 0, none⟩ = false := by simp [World.frozen?, o3, hqV.obj]
    have hs3 := hg3.size
    have HV3 := Lib.hid (And.intro hM3 (And.intro hg3 (And.intro o3 (And.intro hbV hne))))
    have HL := Lib.hid hln
    have hb3 : hb < V3.heap.size := Nat.lt_of_lt_of_le hbV hs3
    have hB3 : w.heap.size < V3.heap.size := Nat.lt_of_lt_of_le hBl hs3
    clear hqV frV sub nB hMV hMd hM3 hg3 o3 o4 hbV hbbV hne hBl hiv hln hs3
    refine begin' 99 (fun _ => True) hmix trivial (fun _ => ?_)
    refine later [11] (fun X => X.cell? ⟨hb, 0, none⟩ = some (.slice a n cap) ∧ X.cell? ⟨hb, 1, none⟩ = some (.map (some b)) ∧ X.cell? ⟨w.heap.size, 0, none⟩ = some (ek k)) (⟨hi1, hp1, c1⟩) (fun hS0 => ?_)
    refine Ht.takeS 10 (i := 0) ⟨some 14, _, _, _, _, _⟩ (.pointer (some ⟨hb, 0, none⟩)) rfl (by kernel_rfl) (by kernel_rfl) (by kernel_rfl) (by kernel_rfl) (by kernel_rfl) hS0 (Or.inl ⟨by rfl, by (intro X hX; go_simp)⟩) ?_
    simp only [Act.put, List.setIfInBounds_toArray, List.set_cons_zero, List.set_cons_succ]
    refine Ht.takeS 10 (i := 1) ⟨some 15, _, _, _, _, _⟩ (.pointer (some ⟨hb, 0, none⟩)) rfl (by kernel_rfl) (by kernel_rfl) (by kernel_rfl) (by kernel_rfl) (by kernel_rfl) hS0 (Or.inl ⟨by rfl, by (intro X hX; go_simp)⟩) ?_
    simp only [Act.put, List.setIfInBounds_toArray, List.set_cons_zero, List.set_cons_succ]
    refine Ht.takeS 10 (i := 2) ⟨some 16, _, _, _, _, _⟩ (.pointer (some ⟨hb, 1, none⟩)) rfl (by kernel_rfl) (by kernel_rfl) (by kernel_rfl) (by kernel_rfl) (by kernel_rfl) hS0 (Or.inl ⟨by rfl, by (intro X hX; go_simp)⟩) ?_
    simp only [Act.put, List.setIfInBounds_toArray, List.set_cons_zero, List.set_cons_succ]
    refine Ht.takeS 10 (i := 3) ⟨some 17, _, _, _, _, _⟩ (.map (some b)) rfl (by kernel_rfl) (by kernel_rfl) (by kernel_rfl) (by kernel_rfl) (by kernel_rfl) hS0 (Or.inl ⟨by rfl, by (intro X hX; have := hX.2.1; go_simp)⟩) ?_
    simp only [Act.put, List.setIfInBounds_toArray, List.set_cons_zero, List.set_cons_succ]
    refine Ht.takeS 10 (i := 4) ⟨some 18, _, _, _, _, _⟩ (.pointer (some ⟨w.heap.size, 0, none⟩)) rfl (by kernel_rfl) (by kernel_rfl) (by kernel_rfl) (by kernel_rfl) (by kernel_rfl) hS0 (Or.inl ⟨by rfl, by (intro X hX; go_simp)⟩) ?_
    simp only [Act.put, List.setIfInBounds_toArray, List.set_cons_zero, List.set_cons_succ]
    refine Ht.takeS 10 (i := 5) ⟨some 19, _, _, _, _, _⟩ (ek k) rfl (by kernel_rfl) (by kernel_rfl) (by kernel_rfl) (by kernel_rfl) (by kernel_rfl) hS0 (Or.inl ⟨by rfl, by (intro X hX; have := hX.2.2; go_simp)⟩) ?_
    simp only [Act.put, List.setIfInBounds_toArray, List.set_cons_zero, List.set_cons_succ]
    refine Ht.takeS 10 (i := 6) ⟨some 20, _, _, _, _, _⟩ (.pointer (some ⟨hb, 0, none⟩)) rfl (by kernel_rfl) (by kernel_rfl) (by kernel_rfl) (by kernel_rfl) (by kernel_rfl) hS0 (Or.inl ⟨by rfl, by (intro X hX; go_simp)⟩) ?_
    simp only [Act.put, List.setIfInBounds_toArray, List.set_cons_zero, List.set_cons_succ]
    refine Ht.takeS 10 (i := 7) ⟨some 21, _, _, _, _, _⟩ (.pointer (some ⟨hb, 0, none⟩)) rfl (by kernel_rfl) (by kernel_rfl) (by kernel_rfl) (by kernel_rfl) (by kernel_rfl) hS0 (Or.inl ⟨by rfl, by (intro X hX; go_simp)⟩) ?_
    simp only [Act.put, List.setIfInBounds_toArray, List.set_cons_zero, List.set_cons_succ]
    refine Ht.takeS 10 (i := 8) ⟨some 22, _, _, _, _, _⟩ (.pointer (some ⟨hb, 0, none⟩)) rfl (by kernel_rfl) (by kernel_rfl) (by kernel_rfl) (by kernel_rfl) (by kernel_rfl) hS0 (Or.inl ⟨by rfl, by (intro X hX; go_simp)⟩) ?_
    simp only [Act.put, List.setIfInBounds_toArray, List.set_cons_zero, List.set_cons_succ]
    refine Ht.takeS 10 (i := 9) ⟨some 23, _, _, _, _, _⟩ (.slice a n cap) rfl (by kernel_rfl) (by kernel_rfl) (by kernel_rfl) (by kernel_rfl) (by kernel_rfl) hS0 (Or.inl ⟨by rfl, by (intro X hX; have := hX.1; go_simp)⟩) ?_
    simp only [Act.put, List.setIfInBounds_toArray, List.set_cons_zero, List.set_cons_succ]
    refine Ht.takeS 10 (i := 10) ⟨some 24, _, _, _, _, _⟩ (.int .i64 ((n : Nat) : Int)) rfl (by kernel_rfl) (by kernel_rfl) (by kernel_rfl) (by kernel_rfl) (by kernel_rfl) hS0 (Or.inl ⟨by rfl, by (intro X hX; go_simp)⟩) ?_
    simp only [Act.put, List.setIfInBounds_toArray, List.set_cons_zero, List.set_cons_succ]
    refine Ht.stepS (i := 11) ⟨none, _, _, _, _, _⟩ rfl (by kernel_rfl) (by rfl) (fun K hK => ?_)
    go_simp
    refine hK _ _ (fun hn => absurd (by decide) hn) (fun hnx => ?_)
    clear hK K hnx
    try simp only [Act.put, List.setIfInBounds_toArray, List.set_cons_zero, List.set_cons_succ]
    refine doneS (by kernel_rfl) ?_
    clear hi1 hp1 c1 c2 hS0 run3
    go_wp2_with fail
    refine begin' 99 (fun _ => True) hmix trivial (fun _ => ?_)
    refine Ht.takeN (i := 0) ⟨some 25, _, _, _, _, _⟩ (.pointer (some ⟨hb, 0, none⟩)) rfl (Nat.le_of_ble_eq_true (by kernel_rfl)) (by kernel_rfl) (by kernel_rfl) (by kernel_rfl) (by kernel_rfl) trivial (Or.inl ⟨by rfl, by (intro X hX; go_simp)⟩) ?_
    simp only [Act.put, List.setIfInBounds_toArray, List.set_cons_zero, List.set_cons_succ]
    refine later [7, 8, 9, 10] (fun X => X.cell? ⟨hb, 0, none⟩ = some (.slice a n cap) ∧ X.cell? ⟨w.heap.size, 0, none⟩ = some (ek k) ∧ X.cell? ⟨w.heap.size, 1, none⟩ = some (er r)) (⟨d1, d2, d3⟩) (fun hS0 => ?_)
    refine Ht.takeS 10 (i := 1) ⟨some 26, _, _, _, _, _⟩ (.pointer (some ⟨hb, 0, none⟩)) rfl (by kernel_rfl) (by kernel_rfl) (by kernel_rfl) (by kernel_rfl) (by kernel_rfl) hS0 (Or.inl ⟨by rfl, by (intro X hX; go_simp)⟩) ?_
    simp only [Act.put, List.setIfInBounds_toArray, List.set_cons_zero, List.set_cons_succ]
    refine Ht.takeS 10 (i := 2) ⟨some 27, _, _, _, _, _⟩ (.pointer (some ⟨hb, 0, none⟩)) rfl (by kernel_rfl) (by kernel_rfl) (by kernel_rfl) (by kernel_rfl) (by kernel_rfl) hS0 (Or.inl ⟨by rfl, by (intro X hX; go_simp)⟩) ?_
    simp only [Act.put, List.setIfInBounds_toArray, List.set_cons_zero, List.set_cons_succ]
    refine Ht.takeS 10 (i := 3) ⟨some 28, _, _, _, _, _⟩ (.pointer (some ⟨hb, 0, none⟩)) rfl (by kernel_rfl) (by kernel_rfl) (by kernel_rfl) (by kernel_rfl) (by kernel_rfl) hS0 (Or.inl ⟨by rfl, by (intro X hX; go_simp)⟩) ?_
    simp only [Act.put, List.setIfInBounds_toArray, List.set_cons_zero, List.set_cons_succ]
    refine Ht.takeS 10 (i := 4) ⟨some 29, _, _, _, _, _⟩ (.slice a n cap) rfl (by kernel_rfl) (by kernel_rfl) (by kernel_rfl) (by kernel_rfl) (by kernel_rfl) hS0 (Or.inl ⟨by rfl, by (intro X hX; have := hX.1; go_simp)⟩) ?_
    simp only [Act.put, List.setIfInBounds_toArray, List.set_cons_zero, List.set_cons_succ]
    refine Ht.takeS 10 (i := 5) ⟨some 30, _, _, _, _, _⟩ (.agg #[ek k, er r]) rfl (by kernel_rfl) (by kernel_rfl) (by kernel_rfl) (by kernel_rfl) (by kernel_rfl) hS0 (Or.inl ⟨by rfl, by (intro X hX; have := And.intro hX.2.1 hX.2.2; go_simp)⟩) ?_
    simp only [Act.put, List.setIfInBounds_toArray, List.set_cons_zero, List.set_cons_succ]
    refine Ht.stepS (i := 6) ⟨some 31, _, _, _, _, _⟩ rfl (by kernel_rfl) (by rfl) (fun K hK => ?_)
    go_simp
    obtain ⟨V4, hV4⟩ : ∃ V, V = (V3.alloc (.cells #[ek k, er r] 63)).drew := ⟨_, rfl⟩
    rw [← hV4]
    have hb4 : Below V3.heap.size V3 V4 := by rw [hV4]; exact ((Below.refl V3.heap.size V3).alloc (Nat.le_refl _) _).drew
    have e1 := (hb4.cell (p := ⟨hb, 0, none⟩) hb3).trans d1
    have e2 := (hb4.cell (p := ⟨w.heap.size, 0, none⟩) hB3).trans d2
    have e3 := (hb4.cell (p := ⟨w.heap.size, 1, none⟩) hB3).trans d3
    have e4 := (hb4.frozen (p := ⟨hb, 0, none⟩) hb3).trans d4
    have e5 : ∀ j u, (cs [(k, r)])[j]? = some u → V4.cell? ((⟨V3.heap.size, 0, none⟩ : Addr).add j) = some u := by
      intro j u hu
      have hx := box2 V3 (ek k) (er r) 63
      rw [hV4]
      match j, hu with
      | 0, hu => exact hx.1.trans hu
      | 1, hu => exact hx.2.trans hu
    refine hK _ _ (fun hn => ⟨e1, e2, e3⟩) (fun hnx => ?_)
    clear hK K hnx d1 d2 d3 d4 e2 e3 hS0
    try simp only [Act.put, List.setIfInBounds_toArray, List.set_cons_zero, List.set_cons_succ]
    obtain ⟨hqV, frV, sub, nB, c1, c2, hMV⟩ := HV.out
    obtain ⟨hM3, hg3, o3, hbV, hne⟩ := HV3.out
    have hnb : blk iv ≠ some b := fun e => by
      obtain ⟨es, c, hm⟩ := hMV.at
      rcases hqV.row with ⟨_, p, h1⟩ | ⟨g, cp, h1, hB⟩
      · rw [h1] at e; cases p <;> cases e
      · obtain ⟨cur, c1, _⟩ := hB.here
        rcases blk_own e with h2 | h2
        · rw [h1] at h2; obtain rfl := Option.some.inj h2; rw [hm] at c1; cases c1
        · rw [h1] at h2; cases h2
    have hnh : blk iv ≠ some hb := fun e => by
      rcases hqV.row with ⟨_, p, h1⟩ | ⟨g, cp, h1, hB⟩
      · rw [h1] at e; cases p <;> cases e
      · obtain ⟨cur, c1, _⟩ := hB.here
        rcases blk_own e with h2 | h2
        · rw [h1] at h2; obtain rfl := Option.some.inj h2; rw [hqV.obj] at c1; cases c1
        · rw [h1] at h2; cases h2
    have hk34 : ∀ x, x < V.heap.size → x ≠ b → V4.heap[x]? = V.heap[x]? := fun x hx hxb => (hb4.block x (Nat.lt_of_lt_of_le hx hg3.size)).trans (hg3.block x hx (fun e => hxb (Option.some.inj e)))
    have hrow4 : Row V4 iv l := hqV.row.kept fun g hg => hk34 g (hqV.size g (hqV.ownI g hg)) (fun e => hnb (e ▸ hg))
    obtain ⟨ao, cp, V5, run5, hrow5, hg5, hbl5⟩ := row_append V4 hrow4 (by have := HK.out.2.2.1; omega) (k, r) ⟨V3.heap.size, 0, none⟩ 1 e5 73
    rw [HIV.out, ← HL.out] at run5
    rw [← HL.out] at hrow5 hbl5
    have e6 : V5.heap[hb]? = V4.heap[hb]? := hg5.block hb (Nat.lt_of_lt_of_le hb3 hb4.size) (fun e => hnh e.symm)
    have e7 : V5.cell? ⟨hb, 0, none⟩ = some (.slice a n cap) := by rw [← e1]; unfold World.cell?; rw [e6]
    have e8 : V5.frozen? ⟨hb, 0, none⟩ = false := by rw [← e4]; simp [World.frozen?, e6]
    have HZ := Lib.hid (And.intro hg5 (And.intro hrow5 (And.intro hbl5 (And.intro hk34 (And.intro hb4 (And.intro hnh hnb))))))
    clear hqV frV sub nB c1 c2 hMV hM3 hg3 o3 hbV hne hk34 hrow4 hg5 hrow5 hbl5 hnh hnb hb4 e4 e5 e6 e1 hV4
    refine Ht.stepS (i := 7) ⟨some 32, _, _, _, _, _⟩ rfl (by kernel_rfl) (by rfl) (fun K hK => ?_)
    refine wp_append _ _ _ rfl rfl rfl run5 ?_
    refine hK _ _ (fun hn => absurd (by decide) hn) (fun hnx => ?_)
    clear hK K hnx run5
    simp only [Act.put, List.setIfInBounds_toArray, List.set_cons_zero, List.set_cons_succ]
    refine Ht.stepS (i := 8) ⟨some 33, _, _, _, _, _⟩ rfl (by kernel_rfl) (by rfl) (fun K hK => ?_)
    go_simp
    refine hK _ _ (fun hn => absurd (by decide) hn) (fun hnx => ?_)
    clear hK K hnx
    try simp only [Act.put, List.setIfInBounds_toArray, List.set_cons_zero, List.set_cons_succ]
    refine Ht.stepS (i := 9) ⟨some 34, _, _, _, _, _⟩ rfl (by kernel_rfl) (by rfl) (fun K hK => ?_)
    go_simp
    refine hK _ _ (fun hn => absurd (by decide) hn) (fun hnx => ?_)
    clear hK K hnx
    try simp only [Act.put, List.setIfInBounds_toArray, List.set_cons_zero, List.set_cons_succ]
    refine Ht.stepS (i := 10) ⟨none, _, _, _, _, _⟩ rfl (by kernel_rfl) (by rfl) (fun K hK => ?_)
    go_simp
    refine hK _ _ (fun hn => absurd (by decide) hn) (fun hnx => ?_)
    clear hK K hnx
    try simp only [Act.put, List.setIfInBounds_toArray, List.set_cons_zero, List.set_cons_succ]
    refine doneS (by kernel_rfl) ?_
    have w0 : wrap64 ((n : Nat) : Int) = ((n : Nat) : Int) := by have := HK.out.2.2.1; have := HL.out; unfold wrap64; omega
    go_wp2_with fail
    go_ret
    obtain ⟨hqV, frV, sub, nB, c1, c2, hMV⟩ := HV.out
    obtain ⟨hM3, hg3, o3, hbV, hne⟩ := HV3.out
    obtain ⟨hg5, hrow5, hbl5, hk34, hb4, hnh, hnb⟩ := HZ.out
    have hln := HL.out
    refine ⟨by rw [← hln]; simp [w0], ?_⟩
    exact add_end (iv5 := .slice ao (n + 1) cp) hqV frV sub HK.out.2.1 HK.out.1 (by rw [← hln]; exact hM3) hg3 hb4 hg5 hrow5 hbl5 hne hnh hnb rfl

end
end Go.Proofs.Ytomkefaakgodhaa.HpE

