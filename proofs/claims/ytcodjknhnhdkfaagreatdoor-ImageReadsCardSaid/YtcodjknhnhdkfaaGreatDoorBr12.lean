/- heaps of string and uint64: add -/
import Derived.Test.YtcodjknhnhdkfaaGreatDoorBr11
import Derived.Shelf.SlMaps.Clone
namespace Go.Proofs.YtcodjknhnhdkfaaGreatDoor.HpE
open Go.RowKit Go.Lib Go.Sort Hp Ht
set_option linter.unusedVariables false
set_option maxRecDepth 20000
/-- a heap grown out of one: its blocks are that one's, or new -/
structure Gx (S : Nat → Prop) (w : World) (hb : Nat) (w' : World) (l' : List (K × Int)) : Prop where
  hq : ∃ S' iv' mv' f', Hq S' w' hb iv' mv' l' f' ∧ ∀ x, S' x → S x ∨ w.heap.size ≤ x
  fr : Fr S w w'
section
variable {S : Nat → Prop} {w : World} {hb : Nat} {iv mv : Value} {l : List (K × Int)} {f : K → Option Nat}
theorem Hq.free {k : Nat} (h : Hq S w hb iv mv l f) : w.frozen? ⟨hb, k, none⟩ = false := by simp [World.frozen?, h.obj]
theorem box2 (w : World) (x y : Value) (t : TypeId) : (w.alloc (.cells #[x, y] t)).cell? ⟨w.heap.size, 0, none⟩ = some x ∧ (w.alloc (.cells #[x, y] t)).cell? ⟨w.heap.size, 1, none⟩ = some y := by
  have h := (MapKept.heap_alloc w (.cells #[x, y] t)).1
  exact ⟨by rw [cell_of_row _ _ _ _ _ _ h]; rfl, by rw [cell_of_row _ _ _ _ _ _ h]; rfl⟩
theorem wp_append {o : Oper} {a : Act} {W W' : World} {F : Act → World → Prop} {Q : Exit → Act → World → Prop} {v u v' : Value} (s x : Operand) (t : TypeId)
    (ho : o.op = .call { callee := .builtin .append, args := #[s, x], argTypes := #[t, t] }) (hs : a.eval s = v) (hx : a.eval x = u)
    (hr : (Builtin.append_ #[t, t] o.type #[v, u]).run Tryz.prog W = .ok v' W') (h : F (a.put o.dst v') W') : o.wp Tryz.prog a W F Q := by
  unfold Oper.wp execOp
  simp only [ho, resolve, invoke, builtin, Sem.run_bind, Sem.run_pure, Result.andThen_ok, List.map_toArray, List.map_cons, List.map_nil, hs, hx, hr]
  exact h
/-- the map's block, taken for another value of the same heap -/
theorem Hq.withMap {Y : World} {b : Nat} {S2 : Nat → Prop} {f2 : K → Option Nat} {l2 : List (K × Int)} (h : Hq S w hb iv mv l f) (hobj : Y.heap[hb]? = some (.cells #[iv, .map (some b)] 173 (0, 0))) (hrow : Row Y iv l2) (hm : Mq Y b l2.length f2) (hpl : Pl f2 l2) (hkeys : ∀ x ∈ l2, wk x.1)
    (h1 : S2 hb) (h2 : ∀ b, blk iv = some b → S2 b) (h3 : S2 b) (h4 : ∀ k, S2 k → k < Y.heap.size) : Hq S2 Y hb iv (.map (some b)) l2 f2 :=
  ⟨hobj, hrow, .inr ⟨b, rfl, hm⟩, hpl, hkeys, h1, h2, fun _ e => by cases e; exact h3, h4⟩
theorem Row.lt {v : Value} {m : List (K × Int)} (h : Row w v m) {x : Nat} (hx : blk v = some x) : x < w.heap.size := by
  rcases h with ⟨_, p, rfl⟩ | ⟨g, cp, rfl, hB⟩
  · cases p <;> cases hx
  · rcases blk_own hx with h2 | h2
    · obtain rfl := Option.some.inj h2; exact hB.lt
    · cases h2
theorem first_map {V : World} {b : Nat} {x y : Value} (h : Hq S w hb iv (.map none) l f) (hl : l = []) (hnB : ¬ S w.heap.size) (hb1 : b = w.heap.size + 1) (hV : V = ((w.setCell ⟨hb, 1, none⟩ (.map (some b))).alloc (.cells #[x, y] 176)).alloc (.map #[] 0)) :
    Hq (fun x => S x ∨ x = b) V hb iv (.map (some b)) l f ∧ Fr S w V ∧ (∀ x, S x ∨ x = b → S x ∨ w.heap.size ≤ x) ∧ ¬ (S w.heap.size ∨ w.heap.size = b) ∧ V.cell? ⟨w.heap.size, 0, none⟩ = some x ∧ V.cell? ⟨w.heap.size, 1, none⟩ = some y ∧ Mq V b l.length f := by
  obtain ⟨A, hA⟩ : ∃ A, A = w.setCell ⟨hb, 1, none⟩ (.map (some b)) := ⟨_, rfl⟩
  rw [← hA] at hV
  have zA : A.heap.size = w.heap.size := by rw [hA]; simp
  have hlt := h.size hb h.own
  have hgA : w.grownBy A (some hb) := by rw [hA]; exact Lib.grownBy_setCell w hb 1 _
  obtain ⟨B, hB⟩ : ∃ B, B = A.alloc (.cells #[x, y] 176) := ⟨_, rfl⟩
  rw [← hB] at hV
  have zB : B.heap.size = w.heap.size + 1 := by rw [hB]; simp [zA]
  have hbB : Below A.heap.size A B := by rw [hB]; exact (Below.refl _ A).alloc (Nat.le_refl _) _
  have hbV : Below B.heap.size B V := by rw [hV]; exact (Below.refl _ B).alloc (Nat.le_refl _) _
  have zV : V.heap.size = w.heap.size + 2 := by rw [hV]; simp [zB]
  have oA : A.heap[hb]? = some (.cells #[iv, .map (some b)] 173 (0, 0)) := by rw [hA, Lib.heap_setCell_same h.obj]; rfl
  have oV : V.heap[hb]? = some (.cells #[iv, .map (some b)] 173 (0, 0)) := (hbV.block hb (by omega)).trans ((hbB.block hb (by omega)).trans oA)
  have bx := box2 A x y 176
  rw [← hB, zA] at bx
  have hM0 : Mp Tryz.prog 9 3 .i64 kl wk V b 0 (fun _ => none) := by
    have := mp_made kind B
    rw [← hV, zB, ← hb1] at this
    exact this
  have hM : Mq V b l.length f := by
    subst hl
    refine hM0.congr fun k hk => ?_
    cases e : f k with
    | none => simp [mf, e]
    | some i => have := ((h.pl k i).1 e).1; simp at this
  have kept : ∀ x, x < w.heap.size → x ≠ hb → V.heap[x]? = w.heap[x]? := fun x hx hxh => (hbV.block x (by omega)).trans ((hbB.block x (by omega)).trans (hgA.block x hx (fun e => hxh (Option.some.inj e))))
  have hrow : Row V iv l := h.row.kept fun g hg => kept g (h.size g (h.ownI g hg)) (fun e => by
    subst e
    have := h.row
    rcases this with ⟨_, p, h1⟩ | ⟨g2, cp, h1, hB2⟩
    · rw [h1] at hg; cases p <;> cases hg
    · obtain ⟨cur, c1, _⟩ := hB2.here
      rcases blk_own hg with h2 | h2
      · rw [h1] at h2; obtain rfl := Option.some.inj h2; rw [h.obj] at c1; cases c1
      · rw [h1] at h2; cases h2)
  refine ⟨⟨oV, hrow, .inr ⟨b, rfl, hM⟩, h.pl, h.keys, .inl h.own, fun x hx => .inl (h.ownI x hx), fun x hx => .inr (by cases hx; rfl), ?_⟩, ?_, ?_, ?_, ?_, ?_, hM⟩
  · rintro z (hz | hz)
    · have := h.size z hz; omega
    · omega
  · exact ((Fr.grown hgA (.inl h.own)).trans (Fr.of_below (S := S) hbB) fun x hx => .inl hx).trans (Fr.of_below (S := S) hbV) fun x hx => .inl hx
  · rintro z (hz | hz)
    · exact .inl hz
    · right; omega
  · rintro (hz | hz)
    · exact hnB hz
    · omega
  · exact (hbV.cell (p := ⟨w.heap.size, 0, none⟩) (by simp; omega)).trans bx.1
  · exact (hbV.cell (p := ⟨w.heap.size, 1, none⟩) (by simp; omega)).trans bx.2
theorem add_end {S2 : Nat → Prop} {V V3 V4 V5 V6 : World} {b : Nat} {k : K} {r : Int} {iv5 : Value} (hq : Hq S2 V hb iv (.map (some b)) l f) (fr : Fr S w V) (sub : ∀ x, S2 x → S x ∨ w.heap.size ≤ x) (hf : f k = none) (hk : wk k)
    (hM3 : Mp Tryz.prog 9 3 .i64 kl wk V3 b (if (none : Option Nat).isSome = true then l.length else l.length + 1) (upd (mf f) k ((l.length : Nat) : Int))) (hg3 : V.drew.grownBy V3 (some b)) (hb4 : Below V3.heap.size V3 V4) (hg5 : V4.grownBy V5 (blk iv))
    (hrow5 : Row V5 iv5 (l ++ [(k, r)])) (hbl5 : ∀ x, blk iv5 = some x → blk iv = some x ∨ V4.heap.size ≤ x) (hne : hb ≠ b) (hnh : blk iv ≠ some hb) (hnb : blk iv ≠ some b) (h6 : V6 = V5.setCell ⟨hb, 0, none⟩ iv5) : Gx S w hb V6 (l ++ [(k, r)]) := by
  have hg3' : V.grownBy V3 (some b) := ⟨hg3.os, hg3.tape, hg3.output, hg3.size, hg3.block⟩
  have z3 := hg3'.size
  have z4 := hb4.size
  have z5 := hg5.size
  have z6 : V6.heap.size = V5.heap.size := by rw [h6]; simp
  have zh := hq.size hb hq.own
  have zb := hq.size b (hq.ownM b rfl)
  have o3 : V3.heap[hb]? = V.heap[hb]? := hg3'.block hb zh (fun e => hne (Option.some.inj e))
  have o4 : V4.heap[hb]? = V3.heap[hb]? := hb4.block hb (by omega)
  have o5 : V5.heap[hb]? = V4.heap[hb]? := hg5.block hb (by omega) (fun e => hnh e.symm)
  have o6 : V6.heap[hb]? = some (.cells #[iv5, .map (some b)] 173 (0, 0)) := by
    rw [h6, Lib.heap_setCell_same (o5.trans (o4.trans (o3.trans hq.obj)))]; rfl
  have oth : ∀ x, x ≠ hb → V6.heap[x]? = V5.heap[x]? := fun x hx => by rw [h6]; exact heap_setCell_other _ _ _ _ hx
  have m6 : V6.heap[b]? = V3.heap[b]? := (oth b hne.symm).trans ((hg5.block b (by omega) (fun e => hnb e.symm)).trans (hb4.block b (by omega)))
  have hr6 : Row V6 iv5 (l ++ [(k, r)]) := hrow5.kept fun g hg => oth g (fun e => by
    subst e
    rcases hbl5 g hg with h | h
    · exact hnh h
    · omega)
  have f3 : Fr S2 V V3 := Fr.grown hg3' (.inl (hq.ownM b rfl))
  have f4 : Fr S2 V3 V4 := Fr.of_below hb4
  have f5 : Fr S2 V4 V5 := Fr.grownN hg5 fun x hx => .inl (hq.ownI x hx)
  have f6 : Fr S2 V5 V6 := by rw [h6]; exact Fr.grown (Lib.grownBy_setCell V5 hb 0 iv5) (.inl hq.own)
  have fv : Fr S2 V V6 := ((f3.trans f4 fun x hx => .inl hx).trans f5 fun x hx => .inl hx).trans f6 fun x hx => .inl hx
  have hlen : (l ++ [(k, r)]).length = l.length + 1 := by simp
  have zV := fr.size
  refine ⟨⟨fun x => S2 x ∨ blk iv5 = some x, iv5, .map (some b), upd f k l.length, ?_, ?_⟩, fr.trans fv sub⟩
  · refine ⟨o6, hr6, .inr ⟨b, rfl, ?_⟩, hq.pl.app hf r, ?_, .inl hq.own, fun x hx => .inr hx, fun x hx => .inl (by cases hx; exact hq.ownM b rfl), ?_⟩
    · rw [hlen]
      have : Mq V3 b (l.length + 1) (upd f k l.length) := by rw [Mq, mf_upd]; exact hM3
      exact this.kept m6
    · intro x hx
      rcases List.mem_append.1 hx with hx | hx
      · exact hq.keys x hx
      · obtain rfl := List.mem_singleton.1 hx; exact hk
    · rintro x (hx | hx)
      · have := hq.size x hx; omega
      · exact hr6.lt hx
  · rintro x (hx | hx)
    · exact sub x hx
    · rcases hbl5 x hx with h | h
      · exact sub x (hq.ownI x h)
      · right; omega
set_option maxHeartbeats 1000000 in
theorem add_any (h : Hq S w hb iv mv l f) {k : K} (hk : wk k) (r : Int) (hf : f k = none) (hn : l.length < 1000000) :
    Calls Tryz.prog 106 #[.pointer (some ⟨hb, 0, none⟩), .agg #[ek k, er r]] w fun e w' => e = .returned (.int .i64 ((l.length : Nat) : Int)) ∧ Gx S w hb w' (l ++ [(k, r)]) := by
  have hmix : Tryz.prog.follows .mixedOrders = true := by kernel_rfl
  have hmk := @run_makeMap Tryz.prog
  have hq := fun W p => run_eql_map_nil_sl (P := Tryz.prog) W 101 _ _ p Tryz.underlying101
  have hI := h.items
  have hP := h.places
  have hfz := h.free (k := 1)
  have hlt := h.size hb h.own
  obtain ⟨x1, x2⟩ := box2 w (ek k) (er r) 176
  have HK := Lib.hid (And.intro hk (And.intro hf (And.intro hn True.intro)))
  have hsb := (Below.refl w.heap.size w).alloc (Nat.le_refl _) (.cells #[ek k, er r] 176)
  have hsz : (w.alloc (.cells #[ek k, er r] 176)).heap.size = w.heap.size + 1 := by simp
  have hnB : ¬ S w.heap.size := fun e => by have := h.size _ e; omega
  rcases h.map with ⟨rfl, hl⟩ | ⟨b, rfl, hM⟩
  · have HH := Lib.hid (And.intro h (And.intro hl (And.intro hsb (And.intro hsz (And.intro hnB (And.intro x1 x2))))))
    clear h hf hn hk hl hsb hsz hnB x1 x2
    go_enter Tryz.func106, Tryz.ntmps106
    go_wp2_with fail
    obtain ⟨b, hbb⟩ : ∃ b, b = w.heap.size + 1 := ⟨_, rfl⟩
    rw [← hbb]
    obtain ⟨V, hV⟩ : ∃ V, V = ((w.setCell ⟨hb, 1, none⟩ (.map (some b))).alloc (.cells #[ek k, er r] 176)).alloc (.map #[] 0) := ⟨_, rfl⟩
    rw [← hV]
    obtain ⟨S2, hS2⟩ : ∃ S2 : Nat → Prop, S2 = fun x => S x ∨ x = b := ⟨_, rfl⟩
    have HV : RowKit.Hid (Hq S2 V hb iv (.map (some b)) l f ∧ Fr S w V ∧ (∀ x, S2 x → S x ∨ w.heap.size ≤ x) ∧ ¬ S2 w.heap.size ∧ V.cell? ⟨w.heap.size, 0, none⟩ = some (ek k) ∧ V.cell? ⟨w.heap.size, 1, none⟩ = some (er r) ∧ Mq V b l.length f) := by
      rw [hS2]
      exact first_map HH.out.1 HH.out.2.1 HH.out.2.2.2.2.1 hbb hV
    clear HH hI hP hfz hV hS2 hlt hq hmk hbb
    obtain ⟨hqV, frV, sub, nB, c1, c2, hMV⟩ := HV.out
    have hi1 := hqV.items
    have hp1 := hqV.places
    obtain ⟨a, cap, hiv, hcap⟩ := hqV.shape
    have HIV := Lib.hid hiv
    rw [hiv] at hi1
    obtain ⟨n, hln⟩ : ∃ n, n = l.length := ⟨_, rfl⟩
    rw [← hln] at hi1 hMV hcap
    have hMd : Mq V.drew b n f := hMV.kept rfl
    obtain ⟨V3, run3, hM3, hg3⟩ := hMd.put kind (by have := HK.out.2.2.1; unfold maxLen; omega) HK.out.1 (wf_nat (i := n) (by have := HK.out.2.2.1; omega))
    rw [mf_some, HK.out.2.1] at hM3
    have hbV := hqV.size hb hqV.own
    have hbbV := hqV.size b (hqV.ownM b rfl)
    have hne : hb ≠ b := fun e => by obtain ⟨es, c, hm⟩ := hMV.at; rw [← e, hqV.obj] at hm; cases hm
    have o3 : V3.heap[hb]? = V.heap[hb]? := hg3.block hb hbV (fun e => hne (Option.some.inj e))
    have hBl : w.heap.size < V.heap.size := World.block_lt_of_cell? _ _ c1
    have o4 : V3.heap[w.heap.size]? = V.heap[w.heap.size]? := hg3.block _ hBl (fun e => nB ((Option.some.inj e) ▸ hqV.ownM b rfl))
    have d1 : V3.cell? ⟨hb, 0, none⟩ = some (.slice a n cap) := by rw [hln, ← HIV.out, cell_of_row V3 hb 0 _ _ _ (o3.trans hqV.obj)]; rfl
    have d2 : V3.cell? ⟨w.heap.size, 0, none⟩ = some (ek k) := by rw [← c1]; unfold World.cell?; rw [o4]
    have d3 : V3.cell? ⟨w.heap.size, 1, none⟩ = some (er r) := by rw [← c2]; unfold World.cell?; rw [o4]
    have d4 : V3.frozen? ⟨hb, 0, none⟩ = false := by simp [World.frozen?, o3, hqV.obj]
    have hs3 := hg3.size
    have HV3 := Lib.hid (And.intro hM3 (And.intro hg3 (And.intro o3 (And.intro hbV hne))))
    have HL := Lib.hid hln
    have hb3 : hb < V3.heap.size := Nat.lt_of_lt_of_le hbV hs3
    have hB3 : w.heap.size < V3.heap.size := Nat.lt_of_lt_of_le hBl hs3
    clear hqV frV sub nB hMV hMd hM3 hg3 o3 o4 hbV hbbV hne hBl hiv hln hs3
    refine begin' 99 (fun _ => True) hmix trivial (fun _ => ?_)
    refine later [11] (fun X => X.cell? ⟨hb, 0, none⟩ = some (.slice a n cap) ∧ X.cell? ⟨hb, 1, none⟩ = some (.map (some b)) ∧ X.cell? ⟨w.heap.size, 0, none⟩ = some (ek k)) (⟨hi1, hp1, c1⟩) (fun hS0 => ?_)
    refine Ht.takeS 10 (i := 0) ⟨some 14, _, _, _, _, _⟩ (.pointer (some ⟨hb, 0, none⟩)) rfl (by kernel_rfl) (by kernel_rfl) (by kernel_rfl) (by kernel_rfl) (by kernel_rfl) hS0 (Or.inl ⟨by rfl, by (intro X hX; go_simp)⟩) ?_
    simp only [Act.put, List.setIfInBounds_toArray, List.set_cons_zero, List.set_cons_succ]
    refine Ht.takeS 10 (i := 1) ⟨some 15, _, _, _, _, _⟩ (.pointer (some ⟨hb, 0, none⟩)) rfl (by kernel_rfl) (by kernel_rfl) (by kernel_rfl) (by kernel_rfl) (by kernel_rfl) hS0 (Or.inl ⟨by rfl, by (intro X hX; go_simp)⟩) ?_
    simp only [Act.put, List.setIfInBounds_toArray, List.set_cons_zero, List.set_cons_succ]
    refine Ht.takeS 10 (i := 2) ⟨some 16, _, _, _, _, _⟩ (.pointer (some ⟨hb, 1, none⟩)) rfl (by kernel_rfl) (by kernel_rfl) (by kernel_rfl) (by kernel_rfl) (by kernel_rfl) hS0 (Or.inl ⟨by rfl, by (intro X hX; go_simp)⟩) ?_
    simp only [Act.put, List.setIfInBounds_toArray, List.set_cons_zero, List.set_cons_succ]
    refine Ht.takeS 10 (i := 3) ⟨some 17, _, _, _, _, _⟩ (.map (some b)) rfl (by kernel_rfl) (by kernel_rfl) (by kernel_rfl) (by kernel_rfl) (by kernel_rfl) hS0 (Or.inl ⟨by rfl, by (intro X hX; have := hX.2.1; go_simp)⟩) ?_
    simp only [Act.put, List.setIfInBounds_toArray, List.set_cons_zero, List.set_cons_succ]
    refine Ht.takeS 10 (i := 4) ⟨some 18, _, _, _, _, _⟩ (.pointer (some ⟨w.heap.size, 0, none⟩)) rfl (by kernel_rfl) (by kernel_rfl) (by kernel_rfl) (by kernel_rfl) (by kernel_rfl) hS0 (Or.inl ⟨by rfl, by (intro X hX; go_simp)⟩) ?_
    simp only [Act.put, List.setIfInBounds_toArray, List.set_cons_zero, List.set_cons_succ]
    refine Ht.takeS 10 (i := 5) ⟨some 19, _, _, _, _, _⟩ (ek k) rfl (by kernel_rfl) (by kernel_rfl) (by kernel_rfl) (by kernel_rfl) (by kernel_rfl) hS0 (Or.inl ⟨by rfl, by (intro X hX; have := hX.2.2; go_simp)⟩) ?_
    simp only [Act.put, List.setIfInBounds_toArray, List.set_cons_zero, List.set_cons_succ]
    refine Ht.takeS 10 (i := 6) ⟨some 20, _, _, _, _, _⟩ (.pointer (some ⟨hb, 0, none⟩)) rfl (by kernel_rfl) (by kernel_rfl) (by kernel_rfl) (by kernel_rfl) (by kernel_rfl) hS0 (Or.inl ⟨by rfl, by (intro X hX; go_simp)⟩) ?_
    simp only [Act.put, List.setIfInBounds_toArray, List.set_cons_zero, List.set_cons_succ]
    refine Ht.takeS 10 (i := 7) ⟨some 21, _, _, _, _, _⟩ (.pointer (some ⟨hb, 0, none⟩)) rfl (by kernel_rfl) (by kernel_rfl) (by kernel_rfl) (by kernel_rfl) (by kernel_rfl) hS0 (Or.inl ⟨by rfl, by (intro X hX; go_simp)⟩) ?_
    simp only [Act.put, List.setIfInBounds_toArray, List.set_cons_zero, List.set_cons_succ]
    refine Ht.takeS 10 (i := 8) ⟨some 22, _, _, _, _, _⟩ (.pointer (some ⟨hb, 0, none⟩)) rfl (by kernel_rfl) (by kernel_rfl) (by kernel_rfl) (by kernel_rfl) (by kernel_rfl) hS0 (Or.inl ⟨by rfl, by (intro X hX; go_simp)⟩) ?_
    simp only [Act.put, List.setIfInBounds_toArray, List.set_cons_zero, List.set_cons_succ]
    refine Ht.takeS 10 (i := 9) ⟨some 23, _, _, _, _, _⟩ (.slice a n cap) rfl (by kernel_rfl) (by kernel_rfl) (by kernel_rfl) (by kernel_rfl) (by kernel_rfl) hS0 (Or.inl ⟨by rfl, by (intro X hX; have := hX.1; go_simp)⟩) ?_
    simp only [Act.put, List.setIfInBounds_toArray, List.set_cons_zero, List.set_cons_succ]
    refine Ht.takeS 10 (i := 10) ⟨some 24, _, _, _, _, _⟩ (.int .i64 ((n : Nat) : Int)) rfl (by kernel_rfl) (by kernel_rfl) (by kernel_rfl) (by kernel_rfl) (by kernel_rfl) hS0 (Or.inl ⟨by rfl, by (intro X hX; go_simp)⟩) ?_
    simp only [Act.put, List.setIfInBounds_toArray, List.set_cons_zero, List.set_cons_succ]
    refine Ht.stepS (i := 11) ⟨none, _, _, _, _, _⟩ rfl (by kernel_rfl) (by rfl) (fun K hK => ?_)
    go_simp
    refine hK _ _ (fun hn => absurd (by decide) hn) (fun hnx => ?_)
    clear hK K hnx
    try simp only [Act.put, List.setIfInBounds_toArray, List.set_cons_zero, List.set_cons_succ]
    refine doneS (by kernel_rfl) ?_
    clear hi1 hp1 c1 c2 hS0 run3
    go_wp2_with fail
    refine begin' 99 (fun _ => True) hmix trivial (fun _ => ?_)
    refine Ht.takeN (i := 0) ⟨some 25, _, _, _, _, _⟩ (.pointer (some ⟨hb, 0, none⟩)) rfl (Nat.le_of_ble_eq_true (by kernel_rfl)) (by kernel_rfl) (by kernel_rfl) (by kernel_rfl) (by kernel_rfl) trivial (Or.inl ⟨by rfl, by (intro X hX; go_simp)⟩) ?_
    simp only [Act.put, List.setIfInBounds_toArray, List.set_cons_zero, List.set_cons_succ]
    refine later [7, 8, 9, 10] (fun X => X.cell? ⟨hb, 0, none⟩ = some (.slice a n cap) ∧ X.cell? ⟨w.heap.size, 0, none⟩ = some (ek k) ∧ X.cell? ⟨w.heap.size, 1, none⟩ = some (er r)) (⟨d1, d2, d3⟩) (fun hS0 => ?_)
    refine Ht.takeS 10 (i := 1) ⟨some 26, _, _, _, _, _⟩ (.pointer (some ⟨hb, 0, none⟩)) rfl (by kernel_rfl) (by kernel_rfl) (by kernel_rfl) (by kernel_rfl) (by kernel_rfl) hS0 (Or.inl ⟨by rfl, by (intro X hX; go_simp)⟩) ?_
    simp only [Act.put, List.setIfInBounds_toArray, List.set_cons_zero, List.set_cons_succ]
    refine Ht.takeS 10 (i := 2) ⟨some 27, _, _, _, _, _⟩ (.pointer (some ⟨hb, 0, none⟩)) rfl (by kernel_rfl) (by kernel_rfl) (by kernel_rfl) (by kernel_rfl) (by kernel_rfl) hS0 (Or.inl ⟨by rfl, by (intro X hX; go_simp)⟩) ?_
    simp only [Act.put, List.setIfInBounds_toArray, List.set_cons_zero, List.set_cons_succ]
    refine Ht.takeS 10 (i := 3) ⟨some 28, _, _, _, _, _⟩ (.pointer (some ⟨hb, 0, none⟩)) rfl (by kernel_rfl) (by kernel_rfl) (by kernel_rfl) (by kernel_rfl) (by kernel_rfl) hS0 (Or.inl ⟨by rfl, by (intro X hX; go_simp)⟩) ?_
    simp only [Act.put, List.setIfInBounds_toArray, List.set_cons_zero, List.set_cons_succ]
    refine Ht.takeS 10 (i := 4) ⟨some 29, _, _, _, _, _⟩ (.slice a n cap) rfl (by kernel_rfl) (by kernel_rfl) (by kernel_rfl) (by kernel_rfl) (by kernel_rfl) hS0 (Or.inl ⟨by rfl, by (intro X hX; have := hX.1; go_simp)⟩) ?_
    simp only [Act.put, List.setIfInBounds_toArray, List.set_cons_zero, List.set_cons_succ]
    refine Ht.takeS 10 (i := 5) ⟨some 30, _, _, _, _, _⟩ (.agg #[ek k, er r]) rfl (by kernel_rfl) (by kernel_rfl) (by kernel_rfl) (by kernel_rfl) (by kernel_rfl) hS0 (Or.inl ⟨by rfl, by (intro X hX; have := And.intro hX.2.1 hX.2.2; go_simp)⟩) ?_
    simp only [Act.put, List.setIfInBounds_toArray, List.set_cons_zero, List.set_cons_succ]
    refine Ht.stepS (i := 6) ⟨some 31, _, _, _, _, _⟩ rfl (by kernel_rfl) (by rfl) (fun K hK => ?_)
    go_simp
    obtain ⟨V4, hV4⟩ : ∃ V, V = (V3.alloc (.cells #[ek k, er r] 176)).drew := ⟨_, rfl⟩
    rw [← hV4]
    have hb4 : Below V3.heap.size V3 V4 := by rw [hV4]; exact ((Below.refl V3.heap.size V3).alloc (Nat.le_refl _) _).drew
    have e1 := (hb4.cell (p := ⟨hb, 0, none⟩) hb3).trans d1
    have e2 := (hb4.cell (p := ⟨w.heap.size, 0, none⟩) hB3).trans d2
    have e3 := (hb4.cell (p := ⟨w.heap.size, 1, none⟩) hB3).trans d3
    have e4 := (hb4.frozen (p := ⟨hb, 0, none⟩) hb3).trans d4
    have e5 : ∀ j u, (cs [(k, r)])[j]? = some u → V4.cell? ((⟨V3.heap.size, 0, none⟩ : Addr).add j) = some u := by
      intro j u hu
      have hx := box2 V3 (ek k) (er r) 176
      rw [hV4]
      match j, hu with
      | 0, hu => exact hx.1.trans hu
      | 1, hu => exact hx.2.trans hu
    refine hK _ _ (fun hn => ⟨e1, e2, e3⟩) (fun hnx => ?_)
    clear hK K hnx d1 d2 d3 d4 e2 e3 hS0
    try simp only [Act.put, List.setIfInBounds_toArray, List.set_cons_zero, List.set_cons_succ]
    obtain ⟨hqV, frV, sub, nB, c1, c2, hMV⟩ := HV.out
    obtain ⟨hM3, hg3, o3, hbV, hne⟩ := HV3.out
    have hnb : blk iv ≠ some b := fun e => by
      obtain ⟨es, c, hm⟩ := hMV.at
      rcases hqV.row with ⟨_, p, h1⟩ | ⟨g, cp, h1, hB⟩
      · rw [h1] at e; cases p <;> cases e
      · obtain ⟨cur, c1, _⟩ := hB.here
        rcases blk_own e with h2 | h2
        · rw [h1] at h2; obtain rfl := Option.some.inj h2; rw [hm] at c1; cases c1
        · rw [h1] at h2; cases h2
    have hnh : blk iv ≠ some hb := fun e => by
      rcases hqV.row with ⟨_, p, h1⟩ | ⟨g, cp, h1, hB⟩
      · rw [h1] at e; cases p <;> cases e
      · obtain ⟨cur, c1, _⟩ := hB.here
        rcases blk_own e with h2 | h2
        · rw [h1] at h2; obtain rfl := Option.some.inj h2; rw [hqV.obj] at c1; cases c1
        · rw [h1] at h2; cases h2
    have hk34 : ∀ x, x < V.heap.size → x ≠ b → V4.heap[x]? = V.heap[x]? := fun x hx hxb => (hb4.block x (Nat.lt_of_lt_of_le hx hg3.size)).trans (hg3.block x hx (fun e => hxb (Option.some.inj e)))
    have hrow4 : Row V4 iv l := hqV.row.kept fun g hg => hk34 g (hqV.size g (hqV.ownI g hg)) (fun e => hnb (e ▸ hg))
    obtain ⟨ao, cp, V5, run5, hrow5, hg5, hbl5⟩ := row_append V4 hrow4 (by have := HK.out.2.2.1; omega) (k, r) ⟨V3.heap.size, 0, none⟩ 1 e5 171
    rw [HIV.out, ← HL.out] at run5
    rw [← HL.out] at hrow5 hbl5
    have e6 : V5.heap[hb]? = V4.heap[hb]? := hg5.block hb (Nat.lt_of_lt_of_le hb3 hb4.size) (fun e => hnh e.symm)
    have e7 : V5.cell? ⟨hb, 0, none⟩ = some (.slice a n cap) := by rw [← e1]; unfold World.cell?; rw [e6]
    have e8 : V5.frozen? ⟨hb, 0, none⟩ = false := by rw [← e4]; simp [World.frozen?, e6]
    have HZ := Lib.hid (And.intro hg5 (And.intro hrow5 (And.intro hbl5 (And.intro hk34 (And.intro hb4 (And.intro hnh hnb))))))
    clear hqV frV sub nB c1 c2 hMV hM3 hg3 o3 hbV hne hk34 hrow4 hg5 hrow5 hbl5 hnh hnb hb4 e4 e5 e6 e1 hV4
    refine Ht.stepS (i := 7) ⟨some 32, _, _, _, _, _⟩ rfl (by kernel_rfl) (by rfl) (fun K hK => ?_)
    refine wp_append _ _ _ rfl rfl rfl run5 ?_
    refine hK _ _ (fun hn => absurd (by decide) hn) (fun hnx => ?_)
    clear hK K hnx run5
    simp only [Act.put, List.setIfInBounds_toArray, List.set_cons_zero, List.set_cons_succ]
    refine Ht.stepS (i := 8) ⟨some 33, _, _, _, _, _⟩ rfl (by kernel_rfl) (by rfl) (fun K hK => ?_)
    go_simp
    refine hK _ _ (fun hn => absurd (by decide) hn) (fun hnx => ?_)
    clear hK K hnx
    try simp only [Act.put, List.setIfInBounds_toArray, List.set_cons_zero, List.set_cons_succ]
    refine Ht.stepS (i := 9) ⟨some 34, _, _, _, _, _⟩ rfl (by kernel_rfl) (by rfl) (fun K hK => ?_)
    go_simp
    refine hK _ _ (fun hn => absurd (by decide) hn) (fun hnx => ?_)
    clear hK K hnx
    try simp only [Act.put, List.setIfInBounds_toArray, List.set_cons_zero, List.set_cons_succ]
    refine Ht.stepS (i := 10) ⟨none, _, _, _, _, _⟩ rfl (by kernel_rfl) (by rfl) (fun K hK => ?_)
    go_simp
    refine hK _ _ (fun hn => absurd (by decide) hn) (fun hnx => ?_)
    clear hK K hnx
    try simp only [Act.put, List.setIfInBounds_toArray, List.set_cons_zero, List.set_cons_succ]
    refine doneS (by kernel_rfl) ?_
    have w0 : wrap64 ((n : Nat) : Int) = ((n : Nat) : Int) := by have := HK.out.2.2.1; have := HL.out; unfold wrap64; omega
    go_wp2_with fail
    go_ret
    obtain ⟨hqV, frV, sub, nB, c1, c2, hMV⟩ := HV.out
    obtain ⟨hM3, hg3, o3, hbV, hne⟩ := HV3.out
    obtain ⟨hg5, hrow5, hbl5, hk34, hb4, hnh, hnb⟩ := HZ.out
    have hln := HL.out
    refine ⟨by rw [← hln]; simp [w0], ?_⟩
    exact add_end (iv5 := .slice ao (n + 1) cp) hqV frV sub HK.out.2.1 HK.out.1 (by rw [← hln]; exact hM3) hg3 hb4 hg5 hrow5 hbl5 hne hnh hnb rfl
  · have HH := Lib.hid (And.intro h (And.intro hM (And.intro hsb (And.intro hsz (And.intro hnB (And.intro x1 x2))))))
    clear h hf hn hk hM hsb hsz hnB x1 x2
    go_enter Tryz.func106, Tryz.ntmps106
    go_wp2_with fail
    obtain ⟨V, hV⟩ : ∃ V, V = w.alloc (.cells #[ek k, er r] 176) := ⟨_, rfl⟩
    rw [← hV]
    obtain ⟨S2, hS2⟩ : ∃ S2, S2 = S := ⟨_, rfl⟩
    have HV : RowKit.Hid (Hq S2 V hb iv (.map (some b)) l f ∧ Fr S w V ∧ (∀ x, S2 x → S x ∨ w.heap.size ≤ x) ∧ ¬ S2 w.heap.size ∧ V.cell? ⟨w.heap.size, 0, none⟩ = some (ek k) ∧ V.cell? ⟨w.heap.size, 1, none⟩ = some (er r) ∧ Mq V b l.length f) := by
      obtain ⟨h, hM, hsb, hsz, hnB, x1, x2⟩ := HH.out
      refine Lib.hid ?_
      rw [hV, hS2]
      exact ⟨h.old hsb, Fr.of_below hsb, fun x hx => .inl hx, hnB, x1, x2, hM.kept (hsb.block b (h.size b (h.ownM b rfl)))⟩
    clear HH hI hP hfz hV hS2 hlt hq hmk
    obtain ⟨hqV, frV, sub, nB, c1, c2, hMV⟩ := HV.out
    have hi1 := hqV.items
    have hp1 := hqV.places
    obtain ⟨a, cap, hiv, hcap⟩ := hqV.shape
    have HIV := Lib.hid hiv
    rw [hiv] at hi1
    obtain ⟨n, hln⟩ : ∃ n, n = l.length := ⟨_, rfl⟩
    rw [← hln] at hi1 hMV hcap
    have hMd : Mq V.drew b n f := hMV.kept rfl
    obtain ⟨V3, run3, hM3, hg3⟩ := hMd.put kind (by have := HK.out.2.2.1; unfold maxLen; omega) HK.out.1 (wf_nat (i := n) (by have := HK.out.2.2.1; omega))
    rw [mf_some, HK.out.2.1] at hM3
    have hbV := hqV.size hb hqV.own
    have hbbV := hqV.size b (hqV.ownM b rfl)
    have hne : hb ≠ b := fun e => by obtain ⟨es, c, hm⟩ := hMV.at; rw [← e, hqV.obj] at hm; cases hm
    have o3 : V3.heap[hb]? = V.heap[hb]? := hg3.block hb hbV (fun e => hne (Option.some.inj e))
    have hBl : w.heap.size < V.heap.size := World.block_lt_of_cell? _ _ c1
    have o4 : V3.heap[w.heap.size]? = V.heap[w.heap.size]? := hg3.block _ hBl (fun e => nB ((Option.some.inj e) ▸ hqV.ownM b rfl))
    have d1 : V3.cell? ⟨hb, 0, none⟩ = some (.slice a n cap) := by rw [hln, ← HIV.out, cell_of_row V3 hb 0 _ _ _ (o3.trans hqV.obj)]; rfl
    have d2 : V3.cell? ⟨w.heap.size, 0, none⟩ = some (ek k) := by rw [← c1]; unfold World.cell?; rw [o4]
    have d3 : V3.cell? ⟨w.heap.size, 1, none⟩ = some (er r) := by rw [← c2]; unfold World.cell?; rw [o4]
    have d4 : V3.frozen? ⟨hb, 0, none⟩ = false := by simp [World.frozen?, o3, hqV.obj]
    have hs3 := hg3.size
    have HV3 := Lib.hid (And.intro hM3 (And.intro hg3 (And.intro o3 (And.intro hbV hne))))
    have HL := Lib.hid hln
    have hb3 : hb < V3.heap.size := Nat.lt_of_lt_of_le hbV hs3
    have hB3 : w.heap.size < V3.heap.size := Nat.lt_of_lt_of_le hBl hs3
    clear hqV frV sub nB hMV hMd hM3 hg3 o3 o4 hbV hbbV hne hBl hiv hln hs3
    refine begin' 99 (fun _ => True) hmix trivial (fun _ => ?_)
    refine later [11] (fun X => X.cell? ⟨hb, 0, none⟩ = some (.slice a n cap) ∧ X.cell? ⟨hb, 1, none⟩ = some (.map (some b)) ∧ X.cell? ⟨w.heap.size, 0, none⟩ = some (ek k)) (⟨hi1, hp1, c1⟩) (fun hS0 => ?_)
    refine Ht.takeS 10 (i := 0) ⟨some 14, _, _, _, _, _⟩ (.pointer (some ⟨hb, 0, none⟩)) rfl (by kernel_rfl) (by kernel_rfl) (by kernel_rfl) (by kernel_rfl) (by kernel_rfl) hS0 (Or.inl ⟨by rfl, by (intro X hX; go_simp)⟩) ?_
    simp only [Act.put, List.setIfInBounds_toArray, List.set_cons_zero, List.set_cons_succ]
    refine Ht.takeS 10 (i := 1) ⟨some 15, _, _, _, _, _⟩ (.pointer (some ⟨hb, 0, none⟩)) rfl (by kernel_rfl) (by kernel_rfl) (by kernel_rfl) (by kernel_rfl) (by kernel_rfl) hS0 (Or.inl ⟨by rfl, by (intro X hX; go_simp)⟩) ?_
    simp only [Act.put, List.setIfInBounds_toArray, List.set_cons_zero, List.set_cons_succ]
    refine Ht.takeS 10 (i := 2) ⟨some 16, _, _, _, _, _⟩ (.pointer (some ⟨hb, 1, none⟩)) rfl (by kernel_rfl) (by kernel_rfl) (by kernel_rfl) (by kernel_rfl) (by kernel_rfl) hS0 (Or.inl ⟨by rfl, by (intro X hX; go_simp)⟩) ?_
    simp only [Act.put, List.setIfInBounds_toArray, List.set_cons_zero, List.set_cons_succ]
    refine Ht.takeS 10 (i := 3) ⟨some 17, _, _, _, _, _⟩ (.map (some b)) rfl (by kernel_rfl) (by kernel_rfl) (by kernel_rfl) (by kernel_rfl) (by kernel_rfl) hS0 (Or.inl ⟨by rfl, by (intro X hX; have := hX.2.1; go_simp)⟩) ?_
    simp only [Act.put, List.setIfInBounds_toArray, List.set_cons_zero, List.set_cons_succ]
    refine Ht.takeS 10 (i := 4) ⟨some 18, _, _, _, _, _⟩ (.pointer (some ⟨w.heap.size, 0, none⟩)) rfl (by kernel_rfl) (by kernel_rfl) (by kernel_rfl) (by kernel_rfl) (by kernel_rfl) hS0 (Or.inl ⟨by rfl, by (intro X hX; go_simp)⟩) ?_
    simp only [Act.put, List.setIfInBounds_toArray, List.set_cons_zero, List.set_cons_succ]
    refine Ht.takeS 10 (i := 5) ⟨some 19, _, _, _, _, _⟩ (ek k) rfl (by kernel_rfl) (by kernel_rfl) (by kernel_rfl) (by kernel_rfl) (by kernel_rfl) hS0 (Or.inl ⟨by rfl, by (intro X hX; have := hX.2.2; go_simp)⟩) ?_
    simp only [Act.put, List.setIfInBounds_toArray, List.set_cons_zero, List.set_cons_succ]
    refine Ht.takeS 10 (i := 6) ⟨some 20, _, _, _, _, _⟩ (.pointer (some ⟨hb, 0, none⟩)) rfl (by kernel_rfl) (by kernel_rfl) (by kernel_rfl) (by kernel_rfl) (by kernel_rfl) hS0 (Or.inl ⟨by rfl, by (intro X hX; go_simp)⟩) ?_
    simp only [Act.put, List.setIfInBounds_toArray, List.set_cons_zero, List.set_cons_succ]
    refine Ht.takeS 10 (i := 7) ⟨some 21, _, _, _, _, _⟩ (.pointer (some ⟨hb, 0, none⟩)) rfl (by kernel_rfl) (by kernel_rfl) (by kernel_rfl) (by kernel_rfl) (by kernel_rfl) hS0 (Or.inl ⟨by rfl, by (intro X hX; go_simp)⟩) ?_
    simp only [Act.put, List.setIfInBounds_toArray, List.set_cons_zero, List.set_cons_succ]
    refine Ht.takeS 10 (i := 8) ⟨some 22, _, _, _, _, _⟩ (.pointer (some ⟨hb, 0, none⟩)) rfl (by kernel_rfl) (by kernel_rfl) (by kernel_rfl) (by kernel_rfl) (by kernel_rfl) hS0 (Or.inl ⟨by rfl, by (intro X hX; go_simp)⟩) ?_
    simp only [Act.put, List.setIfInBounds_toArray, List.set_cons_zero, List.set_cons_succ]
    refine Ht.takeS 10 (i := 9) ⟨some 23, _, _, _, _, _⟩ (.slice a n cap) rfl (by kernel_rfl) (by kernel_rfl) (by kernel_rfl) (by kernel_rfl) (by kernel_rfl) hS0 (Or.inl ⟨by rfl, by (intro X hX; have := hX.1; go_simp)⟩) ?_
    simp only [Act.put, List.setIfInBounds_toArray, List.set_cons_zero, List.set_cons_succ]
    refine Ht.takeS 10 (i := 10) ⟨some 24, _, _, _, _, _⟩ (.int .i64 ((n : Nat) : Int)) rfl (by kernel_rfl) (by kernel_rfl) (by kernel_rfl) (by kernel_rfl) (by kernel_rfl) hS0 (Or.inl ⟨by rfl, by (intro X hX; go_simp)⟩) ?_
    simp only [Act.put, List.setIfInBounds_toArray, List.set_cons_zero, List.set_cons_succ]
    refine Ht.stepS (i := 11) ⟨none, _, _, _, _, _⟩ rfl (by kernel_rfl) (by rfl) (fun K hK => ?_)
    go_simp
    refine hK _ _ (fun hn => absurd (by decide) hn) (fun hnx => ?_)
    clear hK K hnx
    try simp only [Act.put, List.setIfInBounds_toArray, List.set_cons_zero, List.set_cons_succ]
    refine doneS (by kernel_rfl) ?_
    clear hi1 hp1 c1 c2 hS0 run3
    go_wp2_with fail
    refine begin' 99 (fun _ => True) hmix trivial (fun _ => ?_)
    refine Ht.takeN (i := 0) ⟨some 25, _, _, _, _, _⟩ (.pointer (some ⟨hb, 0, none⟩)) rfl (Nat.le_of_ble_eq_true (by kernel_rfl)) (by kernel_rfl) (by kernel_rfl) (by kernel_rfl) (by kernel_rfl) trivial (Or.inl ⟨by rfl, by (intro X hX; go_simp)⟩) ?_
    simp only [Act.put, List.setIfInBounds_toArray, List.set_cons_zero, List.set_cons_succ]
    refine later [7, 8, 9, 10] (fun X => X.cell? ⟨hb, 0, none⟩ = some (.slice a n cap) ∧ X.cell? ⟨w.heap.size, 0, none⟩ = some (ek k) ∧ X.cell? ⟨w.heap.size, 1, none⟩ = some (er r)) (⟨d1, d2, d3⟩) (fun hS0 => ?_)
    refine Ht.takeS 10 (i := 1) ⟨some 26, _, _, _, _, _⟩ (.pointer (some ⟨hb, 0, none⟩)) rfl (by kernel_rfl) (by kernel_rfl) (by kernel_rfl) (by kernel_rfl) (by kernel_rfl) hS0 (Or.inl ⟨by rfl, by (intro X hX; go_simp)⟩) ?_
    simp only [Act.put, List.setIfInBounds_toArray, List.set_cons_zero, List.set_cons_succ]
    refine Ht.takeS 10 (i := 2) ⟨some 27, _, _, _, _, _⟩ (.pointer (some ⟨hb, 0, none⟩)) rfl (by kernel_rfl) (by kernel_rfl) (by kernel_rfl) (by kernel_rfl) (by kernel_rfl) hS0 (Or.inl ⟨by rfl, by (intro X hX; go_simp)⟩) ?_
    simp only [Act.put, List.setIfInBounds_toArray, List.set_cons_zero, List.set_cons_succ]
    refine Ht.takeS 10 (i := 3) ⟨some 28, _, _, _, _, _⟩ (.pointer (some ⟨hb, 0, none⟩)) rfl (by kernel_rfl) (by kernel_rfl) (by kernel_rfl) (by kernel_rfl) (by kernel_rfl) hS0 (Or.inl ⟨by rfl, by (intro X hX; go_simp)⟩) ?_
    simp only [Act.put, List.setIfInBounds_toArray, List.set_cons_zero, List.set_cons_succ]
    refine Ht.takeS 10 (i := 4) ⟨some 29, _, _, _, _, _⟩ (.slice a n cap) rfl (by kernel_rfl) (by kernel_rfl) (by kernel_rfl) (by kernel_rfl) (by kernel_rfl) hS0 (Or.inl ⟨by rfl, by (intro X hX; have := hX.1; go_simp)⟩) ?_
    simp only [Act.put, List.setIfInBounds_toArray, List.set_cons_zero, List.set_cons_succ]
    refine Ht.takeS 10 (i := 5) ⟨some 30, _, _, _, _, _⟩ (.agg #[ek k, er r]) rfl (by kernel_rfl) (by kernel_rfl) (by kernel_rfl) (by kernel_rfl) (by kernel_rfl) hS0 (Or.inl ⟨by rfl, by (intro X hX; have := And.intro hX.2.1 hX.2.2; go_simp)⟩) ?_
    simp only [Act.put, List.setIfInBounds_toArray, List.set_cons_zero, List.set_cons_succ]
    refine Ht.stepS (i := 6) ⟨some 31, _, _, _, _, _⟩ rfl (by kernel_rfl) (by rfl) (fun K hK => ?_)
    go_simp
    obtain ⟨V4, hV4⟩ : ∃ V, V = (V3.alloc (.cells #[ek k, er r] 176)).drew := ⟨_, rfl⟩
    rw [← hV4]
    have hb4 : Below V3.heap.size V3 V4 := by rw [hV4]; exact ((Below.refl V3.heap.size V3).alloc (Nat.le_refl _) _).drew
    have e1 := (hb4.cell (p := ⟨hb, 0, none⟩) hb3).trans d1
    have e2 := (hb4.cell (p := ⟨w.heap.size, 0, none⟩) hB3).trans d2
    have e3 := (hb4.cell (p := ⟨w.heap.size, 1, none⟩) hB3).trans d3
    have e4 := (hb4.frozen (p := ⟨hb, 0, none⟩) hb3).trans d4
    have e5 : ∀ j u, (cs [(k, r)])[j]? = some u → V4.cell? ((⟨V3.heap.size, 0, none⟩ : Addr).add j) = some u := by
      intro j u hu
      have hx := box2 V3 (ek k) (er r) 176
      rw [hV4]
      match j, hu with
      | 0, hu => exact hx.1.trans hu
      | 1, hu => exact hx.2.trans hu
    refine hK _ _ (fun hn => ⟨e1, e2, e3⟩) (fun hnx => ?_)
    clear hK K hnx d1 d2 d3 d4 e2 e3 hS0
    try simp only [Act.put, List.setIfInBounds_toArray, List.set_cons_zero, List.set_cons_succ]
    obtain ⟨hqV, frV, sub, nB, c1, c2, hMV⟩ := HV.out
    obtain ⟨hM3, hg3, o3, hbV, hne⟩ := HV3.out
    have hnb : blk iv ≠ some b := fun e => by
      obtain ⟨es, c, hm⟩ := hMV.at
      rcases hqV.row with ⟨_, p, h1⟩ | ⟨g, cp, h1, hB⟩
      · rw [h1] at e; cases p <;> cases e
      · obtain ⟨cur, c1, _⟩ := hB.here
        rcases blk_own e with h2 | h2
        · rw [h1] at h2; obtain rfl := Option.some.inj h2; rw [hm] at c1; cases c1
        · rw [h1] at h2; cases h2
    have hnh : blk iv ≠ some hb := fun e => by
      rcases hqV.row with ⟨_, p, h1⟩ | ⟨g, cp, h1, hB⟩
      · rw [h1] at e; cases p <;> cases e
      · obtain ⟨cur, c1, _⟩ := hB.here
        rcases blk_own e with h2 | h2
        · rw [h1] at h2; obtain rfl := Option.some.inj h2; rw [hqV.obj] at c1; cases c1
        · rw [h1] at h2; cases h2
    have hk34 : ∀ x, x < V.heap.size → x ≠ b → V4.heap[x]? = V.heap[x]? := fun x hx hxb => (hb4.block x (Nat.lt_of_lt_of_le hx hg3.size)).trans (hg3.block x hx (fun e => hxb (Option.some.inj e)))
    have hrow4 : Row V4 iv l := hqV.row.kept fun g hg => hk34 g (hqV.size g (hqV.ownI g hg)) (fun e => hnb (e ▸ hg))
    obtain ⟨ao, cp, V5, run5, hrow5, hg5, hbl5⟩ := row_append V4 hrow4 (by have := HK.out.2.2.1; omega) (k, r) ⟨V3.heap.size, 0, none⟩ 1 e5 171
    rw [HIV.out, ← HL.out] at run5
    rw [← HL.out] at hrow5 hbl5
    have e6 : V5.heap[hb]? = V4.heap[hb]? := hg5.block hb (Nat.lt_of_lt_of_le hb3 hb4.size) (fun e => hnh e.symm)
    have e7 : V5.cell? ⟨hb, 0, none⟩ = some (.slice a n cap) := by rw [← e1]; unfold World.cell?; rw [e6]
    have e8 : V5.frozen? ⟨hb, 0, none⟩ = false := by rw [← e4]; simp [World.frozen?, e6]
    have HZ := Lib.hid (And.intro hg5 (And.intro hrow5 (And.intro hbl5 (And.intro hk34 (And.intro hb4 (And.intro hnh hnb))))))
    clear hqV frV sub nB c1 c2 hMV hM3 hg3 o3 hbV hne hk34 hrow4 hg5 hrow5 hbl5 hnh hnb hb4 e4 e5 e6 e1 hV4
    refine Ht.stepS (i := 7) ⟨some 32, _, _, _, _, _⟩ rfl (by kernel_rfl) (by rfl) (fun K hK => ?_)
    refine wp_append _ _ _ rfl rfl rfl run5 ?_
    refine hK _ _ (fun hn => absurd (by decide) hn) (fun hnx => ?_)
    clear hK K hnx run5
    simp only [Act.put, List.setIfInBounds_toArray, List.set_cons_zero, List.set_cons_succ]
    refine Ht.stepS (i := 8) ⟨some 33, _, _, _, _, _⟩ rfl (by kernel_rfl) (by rfl) (fun K hK => ?_)
    go_simp
    refine hK _ _ (fun hn => absurd (by decide) hn) (fun hnx => ?_)
    clear hK K hnx
    try simp only [Act.put, List.setIfInBounds_toArray, List.set_cons_zero, List.set_cons_succ]
    refine Ht.stepS (i := 9) ⟨some 34, _, _, _, _, _⟩ rfl (by kernel_rfl) (by rfl) (fun K hK => ?_)
    go_simp
    refine hK _ _ (fun hn => absurd (by decide) hn) (fun hnx => ?_)
    clear hK K hnx
    try simp only [Act.put, List.setIfInBounds_toArray, List.set_cons_zero, List.set_cons_succ]
    refine Ht.stepS (i := 10) ⟨none, _, _, _, _, _⟩ rfl (by kernel_rfl) (by rfl) (fun K hK => ?_)
    go_simp
    refine hK _ _ (fun hn => absurd (by decide) hn) (fun hnx => ?_)
    clear hK K hnx
    try simp only [Act.put, List.setIfInBounds_toArray, List.set_cons_zero, List.set_cons_succ]
    refine doneS (by kernel_rfl) ?_
    have w0 : wrap64 ((n : Nat) : Int) = ((n : Nat) : Int) := by have := HK.out.2.2.1; have := HL.out; unfold wrap64; omega
    go_wp2_with fail
    go_ret
    obtain ⟨hqV, frV, sub, nB, c1, c2, hMV⟩ := HV.out
    obtain ⟨hM3, hg3, o3, hbV, hne⟩ := HV3.out
    obtain ⟨hg5, hrow5, hbl5, hk34, hb4, hnh, hnb⟩ := HZ.out
    have hln := HL.out
    refine ⟨by rw [← hln]; simp [w0], ?_⟩
    exact add_end (iv5 := .slice ao (n + 1) cp) hqV frV sub HK.out.2.1 HK.out.1 (by rw [← hln]; exact hM3) hg3 hb4 hg5 hrow5 hbl5 hne hnh hnb rfl

end
end Go.Proofs.YtcodjknhnhdkfaaGreatDoor.HpE
namespace Go.Proofs.YtcodjknhnhdkfaaGreatDoor.HpE
open Go.RowKit Go.Lib Go.Sort Hp Ht
set_option linter.unusedVariables false
set_option maxRecDepth 20000
/-- a heap of keys with ranks, in whatever order -/
def Hv (S : Nat → Prop) (w : World) (hb : Nat) (m : List (K × Int)) : Prop := ∃ iv mv l f, Hq S w hb iv mv l f ∧ Hpd ltp l ∧ l.Perm m
theorem Hv.kept {S : Nat → Prop} {w Y : World} {hb : Nat} {m : List (K × Int)} (h : Hv S w hb m) (hs : w.heap.size ≤ Y.heap.size) (e : ∀ k, S k → Y.heap[k]? = w.heap[k]?) : Hv S Y hb m := by
  obtain ⟨iv, mv, l, f, h1, h2⟩ := h
  exact ⟨iv, mv, l, f, h1.kept hs e, h2⟩
theorem Hv.old {S : Nat → Prop} {w Y : World} {hb : Nat} {m : List (K × Int)} (h : Hv S w hb m) (e : Below w.heap.size w Y) : Hv S Y hb m := by
  obtain ⟨iv, mv, l, f, h1, h2⟩ := h
  exact ⟨iv, mv, l, f, h1.old e, h2⟩
theorem Hv.fr {S S' : Nat → Prop} {w Y : World} {hb : Nat} {m : List (K × Int)} (h : Hv S w hb m) (e : Fr S' w Y) (hd : ∀ k, S k → ¬ S' k) : Hv S Y hb m := by
  obtain ⟨iv, mv, l, f, h1, h2⟩ := h
  exact ⟨iv, mv, l, f, h1.fr e hd, h2⟩
theorem Hv.perm {S : Nat → Prop} {w : World} {hb : Nat} {m m' : List (K × Int)} (h : Hv S w hb m) (e : m.Perm m') : Hv S w hb m' := by
  obtain ⟨iv, mv, l, f, h1, h2, h3⟩ := h
  exact ⟨iv, mv, l, f, h1, h2, h3.trans e⟩
theorem Hv.size {S : Nat → Prop} {w : World} {hb : Nat} {m : List (K × Int)} (h : Hv S w hb m) : ∀ k, S k → k < w.heap.size := by
  obtain ⟨iv, mv, l, f, h1, h2⟩ := h
  exact h1.size
theorem Hv.own {S : Nat → Prop} {w : World} {hb : Nat} {m : List (K × Int)} (h : Hv S w hb m) : S hb := by
  obtain ⟨iv, mv, l, f, h1, h2⟩ := h
  exact h1.own
theorem Hv.nodup {S : Nat → Prop} {w : World} {hb : Nat} {m : List (K × Int)} (h : Hv S w hb m) : (m.map (·.1)).Nodup := by
  obtain ⟨iv, mv, l, f, h1, h2, h3⟩ := h
  exact (h3.map _).nodup_iff.1 h1.pl.nodup
theorem Hv.keys {S : Nat → Prop} {w : World} {hb : Nat} {m : List (K × Int)} (h : Hv S w hb m) : ∀ x ∈ m, wk x.1 := by
  obtain ⟨iv, mv, l, f, h1, h2, h3⟩ := h
  exact fun x hx => h1.keys x (h3.mem_iff.2 hx)
/-- a heap behind some deeds -/
def Hw (S : Nat → Prop) (w : World) (hb : Nat) (w' : World) (m : List (K × Int)) : Prop := ∃ S', Hv S' w' hb m ∧ Fr S w w' ∧ ∀ x, S' x → S x ∨ w.heap.size ≤ x
def put (k : K) (r : Int) (m : List (K × Int)) : List (K × Int) := (k, r) :: cut k m
theorem put_perm {k : K} {r : Int} {l m : List (K × Int)} (h : l.Perm m) : (put k r l).Perm (put k r m) := (cut_perm h).cons _
section
variable {S : Nat → Prop} {w : World} {hb : Nat} {iv mv : Value} {l m : List (K × Int)} {f : K → Option Nat}
theorem Hq.some_in (h : Hq S w hb iv mv l f) {k : K} : (f k).isSome = decide (k ∈ l.map (·.1)) := by
  cases e : f k with
  | none => simpa using h.pl.none e
  | some i =>
    have := (h.pl k i).1 e
    exact (decide_eq_true (List.mem_map.2 ⟨el l i, el_mem this.1, this.2⟩)).symm
theorem Hq.setR (h : Hq S w hb iv mv l f) {i : Nat} (hi : i < l.length) (r : Int) {g cap : Nat} (hiv : iv = .slice (some ⟨g, 0, none⟩) l.length cap) (hB : Blk w g cap l) (hg : S g) (hgh : g ≠ hb) (hbm : ∀ b, mv = .map (some b) → b ≠ g) :
    Hq S (w.setCell ⟨g, i * 2 + 1, none⟩ (er r)) hb iv mv (l.set i ((el l i).1, r)) f := by
  have ho : ∀ x, x ≠ g → (w.setCell ⟨g, i * 2 + 1, none⟩ (er r)).heap[x]? = w.heap[x]? := fun x hx => heap_setCell_other _ _ _ _ hx
  refine ⟨(ho hb (fun e => hgh e.symm)).trans h.obj, .inr ⟨g, cap, by rw [List.length_set]; exact hiv, hB.setR i r hi⟩, ?_, h.pl.set hi r, ?_, h.own, h.ownI, h.ownM, fun k hk => by simpa using h.size k hk⟩
  · rcases h.map with ⟨_, h2⟩ | ⟨b, h1, h2⟩
    · subst h2; simp at hi
    · exact .inr ⟨b, h1, by rw [List.length_set]; exact h2.kept (ho b (hbm b h1))⟩
  · intro x hx
    rcases List.mem_or_eq_of_mem_set hx with hx | rfl
    · exact h.keys x hx
    · exact (h.keys _ (el_mem hi) : wk (el l i).1)
theorem Sx.hv {wr : World} {l' : List (K × Int)} (h : Sx S w hb iv mv l wr l') (hh : Hpd ltp l') : Hw S w hb wr l := by
  obtain ⟨f', hf⟩ := h.hq
  exact ⟨S, ⟨iv, mv, l', f', hf, hh, h.perm⟩, h.fr, fun x hx => .inl hx⟩
set_option maxHeartbeats 1000000 in
theorem put_any (h : Hv S w hb m) {k : K} (hk : wk k) (r : Int) (hn : m.length < 1000000) :
    Calls Tryz.prog 90 #[.pointer (some ⟨hb, 0, none⟩), ek k, er r] w fun e w' => e = .returned (.bool (decide (k ∈ m.map (·.1)))) ∧ Hw S w hb w' (put k r m) := by
  obtain ⟨iv, mv, l, f, hq, hh, hpm⟩ := h
  have hin : decide (k ∈ m.map (·.1)) = (f k).isSome := by rw [hq.some_in]; simp only [decide_eq_decide]; exact (hpm.map _).mem_iff.symm
  have hll := hpm.length_eq
  have hpl := place_any hq hk
  rw [hin]
  cases hf : f k with
  | some i =>
    rw [hf] at hpl
    obtain ⟨hi, hki⟩ := (hq.pl k i).1 hf
    obtain ⟨g, cap, b, rfl, hB, rfl, hM, hSg, hSb, hgb, hbb, hgm⟩ := hq.at (by omega)
    have hq2 := hq.setR hi r rfl hB hSg hgb (fun b' e => by cases e; exact fun e2 => hgm e2.symm)
    have hs2 := settle_any hq2 (i := i) (by simpa using hi) (by simp; omega) (hh.okx (swo Hp.tot_str) hi _)
    have hfr2 : Fr S w (w.setCell ⟨g, i * 2 + 1, none⟩ (er r)) := Fr.grown (Lib.grownBy_setCell w g _ _) (.inl hSg)
    have hI := hq.items
    have c2 := hB.rank hi
    have f2 := hB.free (i * 2 + 1)
    have hend : (l.set i ((el l i).1, r)).Perm (put k r m) := by
      have := set_cut hi hq.pl.nodup r
      rw [hki] at this ⊢
      exact this.trans (put_perm hpm)
    have hsz : (w.setCell ⟨g, i * 2 + 1, none⟩ (er r)).heap.size = w.heap.size := by simp
    obtain ⟨n, hln⟩ : ∃ n, n = l.length := ⟨_, rfl⟩
    rw [← hln] at hI hi
    have hix : ((i : Nat) : Int) < ((n : Nat) : Int) := by omega
    obtain ⟨q2, hq2e⟩ : ∃ x, x = (el l i).2 := ⟨_, rfl⟩
    rw [← hq2e] at c2
    have HS := Lib.hid (And.intro hs2 (And.intro hfr2 (And.intro hend hsz)))
    have HP := Lib.hid hpl
    unfold er at c2
    clear hs2 hfr2 hend hsz hq2 hq hh hpm hin hll hB hM hSg hSb hgb hbb hgm hln hq2e hf hki hpl hn
    obtain ⟨kv, hkv⟩ : ∃ x, x = ek k := ⟨_, rfl⟩
    rw [← hkv] at HP ⊢
    clear hkv hk
    unfold er at HS ⊢
    go_enter Tryz.func90, Tryz.ntmps90
    go_wp2_with fail
    refine HP.out.mono ?_
    rintro e w1 ⟨rfl, rfl⟩
    go_wp2_with fail
    refine HS.out.1.mono ?_
    rintro e w2 ⟨rfl, l', hsx, hh'⟩
    have HX := Lib.hid (And.intro hsx hh')
    clear hsx hh'
    go_wp2_with fail
    go_ret
    obtain ⟨S', h1, h2, h3⟩ := HX.out.1.hv HX.out.2
    refine ⟨by simp, S', h1.perm HS.out.2.2.1, HS.out.2.1.trans h2 fun x hx => .inl hx, fun x hx => ?_⟩
    rcases h3 x hx with h | h
    · exact .inl h
    · rw [HS.out.2.2.2] at h; exact .inr h
  | none =>
    rw [hf] at hpl
    have hA := add_any hq hk r hf (by omega)
    have hend : (l ++ [(k, r)]).Perm (put k r m) := by
      have h1 : cut k l = l := cut_not (hq.pl.none hf)
      have h2 : (l ++ [(k, r)]).Perm (put k r l) := by unfold put; rw [h1]; exact List.perm_append_singleton _ _
      exact h2.trans (put_perm hpm)
    have hok := hh.okx_app (lt := ltp) (k, r)
    have HS := Lib.hid (And.intro hA (And.intro hend (And.intro hok (And.intro hn hll))))
    have HP := Lib.hid hpl
    clear hA hend hok hq hh hpm hin hll hf hpl hn hk
    unfold ek at HP
    unfold ek er at HS ⊢
    go_enter Tryz.func90, Tryz.ntmps90
    go_wp2_with fail
    refine HP.out.mono ?_
    rintro e w1 ⟨rfl, rfl⟩
    go_wp2_with fail
    refine HS.out.1.mono ?_
    rintro e w2 ⟨rfl, ⟨S2, iv2, mv2, f2, hq2, hsub⟩, hfr⟩
    have hs2 := settle_any hq2 (i := l.length) (by simp) (by have := HS.out.2.2.2.1; have := HS.out.2.2.2.2; simp; omega) HS.out.2.2.1
    have HX := Lib.hid (And.intro hs2 (And.intro hsub hfr))
    clear hs2 hsub hfr hq2
    go_wp2_with fail
    refine HX.out.1.mono ?_
    rintro e w3 ⟨rfl, l', hsx, hh'⟩
    have HY := Lib.hid (And.intro hsx hh')
    clear hsx hh'
    go_wp2_with fail
    go_ret
    obtain ⟨S', h1, h2, h3⟩ := HY.out.1.hv HY.out.2
    refine ⟨by simp, S', h1.perm HS.out.2.1, HX.out.2.2.trans h2 HX.out.2.1, fun x hx => ?_⟩
    rcases h3 x hx with h | h
    · exact HX.out.2.1 x h
    · have := HX.out.2.2.size; right; omega
end
end Go.Proofs.YtcodjknhnhdkfaaGreatDoor.HpE
namespace Go.Proofs.YtcodjknhnhdkfaaGreatDoor.HpE
open Go.RowKit Go.Lib Go.Sort Hp Ht
set_option linter.unusedVariables false
set_option maxRecDepth 20000
theorem wp_delete {o : Oper} {a : Act} {W W' : World} {F : Act → World → Prop} {Q : Exit → Act → World → Prop} {v u v' : Value} (s x : Operand) (t tk : TypeId)
    (ho : o.op = .call { callee := .builtin .delete, args := #[s, x], argTypes := #[t, tk] }) (hs : a.eval s = v) (hx : a.eval x = u)
    (hr : (Builtin.delete_ #[t, tk] o.type #[v, u]).run Tryz.prog W = .ok v' W') (h : F (a.put o.dst v') W') : o.wp Tryz.prog a W F Q := by
  unfold Oper.wp execOp
  simp only [ho, resolve, invoke, builtin, Sem.run_bind, Sem.run_pure, Result.andThen_ok, List.map_toArray, List.map_cons, List.map_nil, hs, hx, hr]
  exact h
section
variable {S : Nat → Prop} {w : World} {hb : Nat} {iv mv : Value} {l m : List (K × Int)} {f : K → Option Nat}
/-- the last one taken off -/
theorem drop_end {V V3 V5 : World} {g cap b : Nat} {q : List (K × Int)} {x y : Value} (h : Hq S V hb (.slice (some ⟨g, 0, none⟩) q.length cap) (.map (some b)) q f) (hl : 0 < q.length) (hB : Blk V g cap q) (hM : Mq V b q.length f)
    (hgb : g ≠ hb) (hbb : b ≠ hb) (hgm : g ≠ b) (hM3 : Mp Tryz.prog 9 3 .i64 kl wk V3 b (q.length - 1) (del (mf f) (el q (q.length - 1)).1)) (hg3 : V.drew.grownBy V3 (some b))
    (h5 : V5 = (((V3.setCell ⟨g, (q.length - 1) * 2, none⟩ x).setCell ⟨g, (q.length - 1) * 2 + 1, none⟩ y).setCell ⟨hb, 0, none⟩ (.slice (some ⟨g, 0, none⟩) (q.length - 1) cap))) :
    Hq S V5 hb (.slice (some ⟨g, 0, none⟩) (q.length - 1) cap) (.map (some b)) (q.take (q.length - 1)) (del f (el q (q.length - 1)).1) ∧ Fr S V V5 := by
  have hSg : S g := h.ownI g (by
    have := hB.fits
    obtain ⟨c, rfl⟩ : ∃ c, cap = c + 1 := ⟨cap - 1, by omega⟩
    rfl)
  have hSb : S b := h.ownM b rfl
  have hg3' : V.grownBy V3 (some b) := ⟨hg3.os, hg3.tape, hg3.output, hg3.size, hg3.block⟩
  have zh := h.size hb h.own
  have zg := h.size g hSg
  have z3 := hg3'.size
  have o3 : V3.heap[hb]? = some (.cells #[.slice (some ⟨g, 0, none⟩) q.length cap, .map (some b)] 173 (0, 0)) := (hg3'.block hb zh (fun e => hbb (Option.some.inj e).symm)).trans h.obj
  have B3 : Blk V3 g cap q := hB.kept (hg3'.block g zg (fun e => hgm (Option.some.inj e)))
  have ht : (q.take (q.length - 1)).length = q.length - 1 := by simp
  have B3t := B3.take (q.length - 1)
  have B4 := (B3t.far ((q.length - 1) * 2) x (by rw [ht]; omega)).far ((q.length - 1) * 2 + 1) y (by rw [ht]; omega)
  obtain ⟨V4, hV4⟩ : ∃ V4, V4 = (V3.setCell ⟨g, (q.length - 1) * 2, none⟩ x).setCell ⟨g, (q.length - 1) * 2 + 1, none⟩ y := ⟨_, rfl⟩
  rw [← hV4] at B4 h5
  have g4 : V3.grownBy V4 (some g) := by rw [hV4]; exact Lib.grownBy_setB (Lib.grownBy_setCell V3 g _ _) _ _
  have g5 : V4.grownBy V5 (some hb) := by rw [h5]; exact Lib.grownBy_setCell V4 hb 0 _
  have o4 : V4.heap[hb]? = V3.heap[hb]? := g4.block hb (by omega) (fun e => hgb (Option.some.inj e).symm)
  have o5 : V5.heap[hb]? = some (.cells #[.slice (some ⟨g, 0, none⟩) (q.length - 1) cap, .map (some b)] 173 (0, 0)) := by rw [h5, Lib.heap_setCell_same (o4.trans o3)]; rfl
  have z4 := g4.size
  have z5 := g5.size
  have B5 : Blk V5 g cap (q.take (q.length - 1)) := B4.kept (g5.block g (by omega) (fun e => hgb (Option.some.inj e)))
  have zb := hM.lt
  have m5 : V5.heap[b]? = V3.heap[b]? := (g5.block b (by omega) (fun e => hbb (Option.some.inj e))).trans (g4.block b (by omega) (fun e => hgm (Option.some.inj e).symm))
  have f3 : Fr S V V3 := Fr.grown hg3' (.inl hSb)
  have f4 : Fr S V3 V4 := Fr.grown g4 (.inl hSg)
  have f5 : Fr S V4 V5 := Fr.grown g5 (.inl h.own)
  have ff : Fr S V V5 := (f3.trans f4 fun x hx => .inl hx).trans f5 fun x hx => .inl hx
  refine ⟨⟨o5, .inr ⟨g, cap, by rw [ht], B5⟩, .inr ⟨b, rfl, ?_⟩, h.pl.pop hl, fun x hx => h.keys x (List.mem_of_mem_take hx), h.own, fun x hx => ?_, h.ownM, fun k hk => Nat.lt_of_lt_of_le (h.size k hk) ff.size⟩, ff⟩
  · rw [ht]
    have : Mq V3 b (q.length - 1) (del f (el q (q.length - 1)).1) := by rw [Mq, mf_del]; exact hM3
    exact this.kept m5
  · have : x = g := by
      rcases blk_own hx with h2 | h2
      · exact (Option.some.inj h2).symm
      · cases h2
    rw [this]; exact hSg
end
end Go.Proofs.YtcodjknhnhdkfaaGreatDoor.HpE
namespace Go.Proofs.YtcodjknhnhdkfaaGreatDoor.HpE
open Go.RowKit Go.Lib Go.Sort Hp Ht
set_option linter.unusedVariables false
set_option maxRecDepth 20000
theorem results_c2 {fn : Func} {p a : Tmp} {ty : TypeId} (h : fn.results = #[.cell p ty, .tmp a]) (tmps : Array Value) (P : Program) (w : World) :
    (results fn tmps).run P w =
      ((asAddr (tmps.getD p undef)).run P w).andThen fun x w₁ => ((loadVar ty x).run P w₁).andThen fun v w₂ => .ok (.tuple #[v, tmps.getD a undef]) w₂ := by
  simp only [results, h]
  simp [Sem.run_bind, Result.andThen]
theorem frFrozen {S : Nat → Prop} {w w' : World} (h : Fr S w w') {a : Addr} (hl : a.block < w.heap.size) (hn : ¬ S a.block) : w'.frozen? a = w.frozen? a := by
  have hb := h.block a.block hl hn
  unfold World.frozen?
  rw [hb]
/-- no item -/
def none0 : Value := .agg #[.string ⟨#[]⟩, .int .u64 0]
def item (x : K × Int) : Value := .agg #[ek x.1, er x.2]
/-- the first one -/
def Lst (m : List (K × Int)) (x : K × Int) : Prop := x ∈ m ∧ ∀ y ∈ m, ltp y x = false
theorem Lst.one {m : List (K × Int)} {x y : K × Int} (h : Lst m x) (k : Lst m y) : x = y := by
  rcases ltp_tri Hp.tot_str x y with e | e | e
  · rw [k.2 x h.1] at e; cases e
  · exact e
  · rw [h.2 y k.1] at e; cases e
theorem Lst.perm {m m' : List (K × Int)} {x : K × Int} (h : Lst m x) (e : m.Perm m') : Lst m' x := ⟨e.mem_iff.1 h.1, fun y hy => h.2 y (e.mem_iff.2 hy)⟩
theorem Lst.ahead {m : List (K × Int)} {x y : K × Int} (h : Lst m x) (hy : y ∈ m) (hne : y ≠ x) : ltp x y = true := by
  rcases ltp_tri Hp.tot_str x y with e | e | e
  · exact e
  · exact absurd e.symm hne
  · rw [h.2 y hy] at e; cases e
section
variable {S : Nat → Prop} {w : World} {hb : Nat} {iv mv : Value} {l m : List (K × Int)} {f : K → Option Nat}
end
end Go.Proofs.YtcodjknhnhdkfaaGreatDoor.HpE
namespace Go.Proofs.YtcodjknhnhdkfaaGreatDoor.HpE
open Go.RowKit Go.Lib Go.Sort Hp
set_option linter.unusedVariables false
/-- a heap whose blocks all lie from B on -/
def Hx (B : Nat) (w : World) (hb : Nat) (m : List (K × Int)) : Prop := ∃ S, Hv S w hb m ∧ ∀ k, S k → B ≤ k
theorem Hx.old {B : Nat} {w Y : World} {hb : Nat} {m : List (K × Int)} (h : Hx B w hb m) (e : Below w.heap.size w Y) : Hx B Y hb m := by
  obtain ⟨S, h1, h2⟩ := h
  exact ⟨S, h1.old e, h2⟩
theorem Hx.mono {B C : Nat} {w : World} {hb : Nat} {m : List (K × Int)} (h : Hx B w hb m) (e : C ≤ B) : Hx C w hb m := by
  obtain ⟨S, h1, h2⟩ := h
  exact ⟨S, h1, fun k hk => Nat.le_trans e (h2 k hk)⟩
theorem Hx.perm {B : Nat} {w : World} {hb : Nat} {m m' : List (K × Int)} (h : Hx B w hb m) (e : m.Perm m') : Hx B w hb m' := by
  obtain ⟨S, h1, h2⟩ := h
  exact ⟨S, h1.perm e, h2⟩
theorem Hx.of {B : Nat} {S : Nat → Prop} {w w' : World} {hb : Nat} {m : List (K × Int)} (h : Hw S w hb w' m) (hs : ∀ k, S k → B ≤ k) (hB : B ≤ w.heap.size) : Hx B w' hb m ∧ Below B w w' := by
  obtain ⟨S', h1, h2, h3⟩ := h
  exact ⟨⟨S', h1, fun k hk => (h3 k hk).elim (hs k) (fun e => Nat.le_trans hB e)⟩, h2.below hB hs⟩
theorem new_x (w : World) : Calls Tryz.prog 89 #[] w fun e w' => e = .returned (.pointer (some ⟨w.heap.size, 0, none⟩)) ∧ Hx w.heap.size w' w.heap.size [] ∧ Below w.heap.size w w' := by
  refine (new_any w).mono ?_
  rintro e w' ⟨rfl, h1, h2⟩
  exact ⟨rfl, ⟨_, ⟨_, _, _, _, h1, fun j _ hj => absurd hj (by simp), List.Perm.refl _⟩, fun k hk => Nat.le_of_eq hk.symm⟩, h2⟩
section
variable {B : Nat} {w : World} {hb : Nat} {m : List (K × Int)}
theorem Hx.put (h : Hx B w hb m) (hB : B ≤ w.heap.size) {k : K} (hk : wk k) (r : Int) (hn : m.length < 1000000) :
    Calls Tryz.prog 90 #[.pointer (some ⟨hb, 0, none⟩), ek k, er r] w fun e w' => e = .returned (.bool (decide (k ∈ m.map (·.1)))) ∧ Hx B w' hb (put k r m) ∧ Below B w w' := by
  obtain ⟨S, h1, h2⟩ := h
  refine (put_any h1 hk r hn).mono ?_
  rintro e w' ⟨rfl, h3⟩
  exact ⟨rfl, Hx.of h3 h2 hB⟩
theorem Hx.nodup (h : Hx B w hb m) : (m.map (·.1)).Nodup := h.elim fun _ h => h.1.nodup
theorem Hx.keys (h : Hx B w hb m) : ∀ x ∈ m, wk x.1 := h.elim fun _ h => h.1.keys
end
end Go.Proofs.YtcodjknhnhdkfaaGreatDoor.HpE
namespace Go.Proofs.YtcodjknhnhdkfaaGreatDoor.HpE
open Go.RowKit Go.Lib Go.Sort Hp
set_option linter.unusedVariables false
/-- three heaps, apart, from B on -/
def T3 (B : Nat) (X : World) (x y z : Nat) (m1 m2 m3 : List (K × Int)) : Prop :=
  ∃ S1 S2 S3, Hv S1 X x m1 ∧ Hv S2 X y m2 ∧ Hv S3 X z m3 ∧ (∀ k, S1 k → ¬ S2 k) ∧ (∀ k, S1 k → ¬ S3 k) ∧ (∀ k, S2 k → ¬ S3 k) ∧ (∀ k, S1 k → B ≤ k) ∧ (∀ k, S2 k → B ≤ k) ∧ ∀ k, S3 k → B ≤ k
section
variable {B : Nat} {X : World} {x y z : Nat} {m1 m2 m3 : List (K × Int)}
theorem T3.rot (h : T3 B X x y z m1 m2 m3) : T3 B X y z x m2 m3 m1 := by
  obtain ⟨S1, S2, S3, a1, a2, a3, d1, d2, d3, b1, b2, b3⟩ := h
  exact ⟨S2, S3, S1, a2, a3, a1, d3, fun k h1 h2 => d1 k h2 h1, fun k h1 h2 => d2 k h2 h1, b2, b3, b1⟩
theorem T3.old {Y : World} (h : T3 B X x y z m1 m2 m3) (e : Below X.heap.size X Y) : T3 B Y x y z m1 m2 m3 := by
  obtain ⟨S1, S2, S3, a1, a2, a3, d⟩ := h
  exact ⟨S1, S2, S3, a1.old e, a2.old e, a3.old e, d⟩
theorem T3.of {S1 S2 S3 : Nat → Prop} {Y : World} {m : List (K × Int)} (hw : Hw S1 X x Y m) (a2 : Hv S2 X y m2) (a3 : Hv S3 X z m3) (d1 : ∀ k, S1 k → ¬ S2 k) (d2 : ∀ k, S1 k → ¬ S3 k) (d3 : ∀ k, S2 k → ¬ S3 k)
    (b1 : ∀ k, S1 k → B ≤ k) (b2 : ∀ k, S2 k → B ≤ k) (b3 : ∀ k, S3 k → B ≤ k) (hB : B ≤ X.heap.size) : T3 B Y x y z m m2 m3 ∧ Below B X Y := by
  obtain ⟨S', h1, h2, h3⟩ := hw
  refine ⟨⟨S', S2, S3, h1, a2.fr h2 (fun k h e => d1 k e h), a3.fr h2 (fun k h e => d2 k e h), fun k hk e => ?_, fun k hk e => ?_, d3, fun k hk => ?_, b2, b3⟩, h2.below hB b1⟩
  · rcases h3 k hk with h | h
    · exact d1 k h e
    · have := a2.size k e; omega
  · rcases h3 k hk with h | h
    · exact d2 k h e
    · have := a3.size k e; omega
  · rcases h3 k hk with h | h
    · exact b1 k h
    · omega
theorem T3.put (h : T3 B X x y z m1 m2 m3) (hB : B ≤ X.heap.size) {k : K} (hk : wk k) (r : Int) (hn : m1.length < 1000000) :
    Calls Tryz.prog 90 #[.pointer (some ⟨x, 0, none⟩), ek k, er r] X fun e Y => (∃ b, e = .returned (.bool b)) ∧ T3 B Y x y z (put k r m1) m2 m3 ∧ Below B X Y := by
  obtain ⟨S1, S2, S3, a1, a2, a3, d1, d2, d3, b1, b2, b3⟩ := h
  refine (put_any a1 hk r hn).mono ?_
  rintro e w' ⟨rfl, hw⟩
  exact ⟨⟨_, rfl⟩, T3.of hw a2 a3 d1 d2 d3 b1 b2 b3 hB⟩
theorem T3.nodup (h : T3 B X x y z m1 m2 m3) : (m1.map (·.1)).Nodup := by
  obtain ⟨S1, S2, S3, a1, _⟩ := h
  exact a1.nodup
theorem T3.keys (h : T3 B X x y z m1 m2 m3) : ∀ p ∈ m1, wk p.1 := by
  obtain ⟨S1, S2, S3, a1, _⟩ := h
  exact a1.keys
theorem new_v (w : World) : Calls Tryz.prog 89 #[] w fun e w' => e = .returned (.pointer (some ⟨w.heap.size, 0, none⟩)) ∧ Hv (fun k => k = w.heap.size) w' w.heap.size [] ∧ Below w.heap.size w w' := by
  refine (new_any w).mono ?_
  rintro e w' ⟨rfl, h1, h2⟩
  exact ⟨rfl, ⟨_, _, _, _, h1, fun j _ hj => absurd hj (by simp), List.Perm.refl _⟩, h2⟩
end
theorem put_key {k k' : K} {r : Int} {m : List (K × Int)} : k' ∈ (put k r m).map (·.1) ↔ k' = k ∨ k' ∈ m.map (·.1) := by
  unfold put
  simp only [List.map_cons, List.mem_cons, List.mem_map]
  constructor
  · rintro (h | ⟨p, hp, rfl⟩)
    · exact .inl h
    · exact .inr ⟨p, (mem_cut.1 hp).1, rfl⟩
  · rintro (h | ⟨p, hp, rfl⟩)
    · exact .inl h
    · by_cases e : p.1 = k
      · exact .inl e
      · exact .inr ⟨p, mem_cut.2 ⟨hp, e⟩, rfl⟩
theorem cut_key {k k' : K} {m : List (K × Int)} : k' ∈ (cut k m).map (·.1) ↔ k' ∈ m.map (·.1) ∧ k' ≠ k := by
  simp only [List.mem_map]
  constructor
  · rintro ⟨p, hp, rfl⟩
    exact ⟨⟨p, (mem_cut.1 hp).1, rfl⟩, (mem_cut.1 hp).2⟩
  · rintro ⟨⟨p, hp, rfl⟩, h⟩
    exact ⟨p, mem_cut.2 ⟨hp, h⟩, rfl⟩
theorem cut_len {k : K} {m : List (K × Int)} : (cut k m).length ≤ m.length := List.length_filter_le _ _
theorem put_len {k : K} {r : Int} {m : List (K × Int)} : (put k r m).length ≤ m.length + 1 := by unfold put; have := cut_len (k := k) (m := m); simp; omega
theorem cut_less {k : K} {m : List (K × Int)} (h : k ∈ m.map (·.1)) : (cut k m).length < m.length := by
  obtain ⟨p, hp, rfl⟩ := List.mem_map.1 h
  unfold cut
  exact List.length_filter_lt_length_iff_exists.2 ⟨p, hp, by simp⟩
/-- nodup lists of the same members are permutations -/
theorem perm_of_mem {α : Type} [DecidableEq α] : ∀ {l m : List α}, l.Nodup → m.Nodup → (∀ x, x ∈ l ↔ x ∈ m) → l.Perm m
  | [], m, _, _, h => by
    have : m = [] := List.eq_nil_iff_forall_not_mem.2 fun x hx => by simpa using (h x).2 hx
    rw [this]
  | x :: l, m, h1, h2, h => by
    have hx : x ∈ m := (h x).1 (by simp)
    have h3 := List.nodup_cons.1 h1
    have hp : m.Perm (x :: m.erase x) := List.perm_cons_erase hx
    have h4 := hp.nodup_iff.1 h2
    have h5 := List.nodup_cons.1 h4
    refine (List.Perm.cons x (perm_of_mem h3.2 h5.2 fun y => ?_)).trans hp.symm
    constructor
    · intro hy
      have := (h y).1 (by simp [hy])
      rcases List.mem_cons.1 (hp.mem_iff.1 this) with e | e
      · subst e; exact absurd hy h3.1
      · exact e
    · intro hy
      have := (h y).2 (hp.mem_iff.2 (by simp [hy]))
      rcases List.mem_cons.1 this with e | e
      · subst e; exact absurd hy h5.1
      · exact e
theorem nodup_of_keys {m : List (K × Int)} (h : (m.map (·.1)).Nodup) : m.Nodup := by
  rw [List.nodup_iff_pairwise_ne, List.pairwise_map] at h
  rw [List.nodup_iff_pairwise_ne]
  exact h.imp fun h e => h (by rw [e])
end Go.Proofs.YtcodjknhnhdkfaaGreatDoor.HpE
namespace Go.Proofs.YtcodjknhnhdkfaaGreatDoor.HpE
open Go.RowKit Hp
/-- how many a heap has, read off its row -/
def lenAt (x : Nat) (w : World) : Nat := match w.cell? ⟨x, 0, none⟩ with
  | some (.slice _ n _) => n
  | _ => 0
theorem Hv.lenAt {S : Nat → Prop} {w : World} {hb : Nat} {m : List (K × Int)} (h : Hv S w hb m) : lenAt hb w = m.length := by
  obtain ⟨iv, mv, l, f, hq, _, hp⟩ := h
  obtain ⟨a, cap, hiv, _⟩ := hq.shape
  have hc := hq.items
  rw [hiv] at hc
  unfold HpE.lenAt
  rw [hc]
  exact hp.length_eq
theorem T3.lenAt {B : Nat} {X : World} {x y z : Nat} {m1 m2 m3 : List (K × Int)} (h : T3 B X x y z m1 m2 m3) : lenAt x X = m1.length := by
  obtain ⟨S1, S2, S3, a1, _⟩ := h
  exact a1.lenAt
end Go.Proofs.YtcodjknhnhdkfaaGreatDoor.HpE
namespace Go.Proofs.YtcodjknhnhdkfaaGreatDoor.HpE
open Go.RowKit Hp
end Go.Proofs.YtcodjknhnhdkfaaGreatDoor.HpE
