
/- specs: copies, and whether one is little -/
import Derived.Test.YtcodjknhnhdkfaaDoorSpM
import Derived.Laws.AppendOwnNone
import Derived.BigQuiet
import Derived.Lib.SmallJoins
namespace Go.Proofs.YtcodjknhnhdkfaaDoor.Sp
open Go.RowKit Go.Lib Rf By
set_option linter.unusedVariables false
set_option maxRecDepth 20000
theorem info9 : (Tryd.prog.info? 9).map (fun i => (i.zero, i.size, i.bytes)) = some (some (.string ⟨#[]⟩), 1, 16) := by kernel_rfl
theorem addl (b o j : Nat) : (⟨b, o, none⟩ : Addr).add j = ⟨b, o + j, none⟩ := by unfold Addr.add; split <;> simp_all
/-- a spec's block, cell by cell -/
def At (w : World) (b : Nat) (nm tn : ByteArray) (pr dl : Int) (a : Option Addr) (n c : Nat) (bs cp at' ls : Int) (cr : ByteArray) (ct : Int) : Prop :=
  w.heap[b]? = some (.cells #[.string nm, .string tn, .int .i64 pr, .int .i64 dl, .slice a n c, .int .i64 bs, .int .i64 cp, .int .i64 at', .int .i64 ls, .string cr, .int .i64 ct] 50 (0, 0))
theorem eleven {w : World} {b : Nat} {v0 v1 v2 v3 v4 v5 v6 v7 v8 v9 v10 : Value} {t : TypeId} (h : w.heap[b]? = some (.cells #[v0, v1, v2, v3, v4, v5, v6, v7, v8, v9, v10] t (0, 0))) :
    (w.cell? ⟨b, 0, none⟩ = some v0 ∧ w.cell? ⟨b, 1, none⟩ = some v1 ∧ w.cell? ⟨b, 2, none⟩ = some v2 ∧ w.cell? ⟨b, 3, none⟩ = some v3 ∧ w.cell? ⟨b, 4, none⟩ = some v4 ∧ w.cell? ⟨b, 5, none⟩ = some v5 ∧ w.cell? ⟨b, 6, none⟩ = some v6 ∧
      w.cell? ⟨b, 7, none⟩ = some v7 ∧ w.cell? ⟨b, 8, none⟩ = some v8 ∧ w.cell? ⟨b, 9, none⟩ = some v9 ∧ w.cell? ⟨b, 10, none⟩ = some v10) ∧ ∀ k, w.frozen? ⟨b, k, none⟩ = false := by
  refine ⟨⟨?_, ?_, ?_, ?_, ?_, ?_, ?_, ?_, ?_, ?_, ?_⟩, fun k => ?_⟩ <;> simp [World.cell?, World.frozen?, h]
theorem old2 {w w' : World} {k : Nat} {o : Obj} (h : Below w.heap.size w w') (e : w.heap[k]? = some o) : w'.heap[k]? = some o := (h.block k (Array.getElem?_eq_some_iff.1 e).1).trans e
theorem results_c1 {fn : Func} {p : Tmp} {ty : TypeId} (h : fn.results = #[.cell p ty]) (tmps : Array Value) (P : Program) (w : World) :
    (results fn tmps).run P w = ((asAddr (tmps.getD p undef)).run P w).andThen fun a w₁ => (loadVar ty a).run P w₁ := by
  simp only [results, h]
  simp [Sem.run_bind, Result.andThen]
/-- a row of one's own -/
theorem dp_own {w : World} {B : Nat} {v : Value} {n : Nat} {ds : List ByteArray} (h : w.ownsRow B 9 1 v n (ds.map Value.string)) (hl : ds.length = n) :
    ∃ a c, v = .slice a n c ∧ Dp w a n ds ∧ (n = 0 ∨ ∃ g cur, a = some ⟨g, 0, none⟩ ∧ B ≤ g ∧ w.heap[g]? = some (.cells cur 9 (0, 0)) ∧ n ≤ cur.size) := by
  rcases h.2 with ⟨rfl, h0⟩ | ⟨g, cap, cur, rfl, h2, h3, h4, h5, h6, h7⟩
  · exact ⟨none, 0, by rw [h0], ⟨hl, ⟨fun _ => h0, .inl h0⟩⟩, .inl h0⟩
  · refine ⟨some ⟨g, 0, none⟩, cap, rfl, ⟨hl, ⟨fun e => (by cases e), Or.inr ⟨g, 0, rfl, fun i hi => ?_⟩⟩⟩, Or.inr ⟨g, cur, rfl, h2, h3, by omega⟩⟩
    have := h.cells rfl i (.string ds[i]) (by simp [hi])
    rwa [addl] at this
set_option maxHeartbeats 2000000 in
theorem clone_ds {a : Option Addr} {n c : Nat} {ds : List ByteArray} {w : World} (hd : Dp w a n ds) (hn : n ≤ 1000000000) :
    Calls Tryd.prog 46 #[.slice a n c] w fun e w' => ∃ v', e = .returned v' ∧ w'.ownsRow w.heap.size 9 1 v' n (ds.map Value.string) ∧ Below w.heap.size w w' := by
  obtain ⟨i0, hi, hz0, hz1, hz2⟩ := info_parts info9
  have hne := run_eql_slice_nil (P := Tryd.prog) (t := 48) (e := 9) (h := Tryd.underlying48)
  cases a with
  | none =>
    obtain rfl : n = 0 := hd.2.1 rfl
    obtain rfl : ds = [] := List.length_eq_zero_iff.1 hd.1
    go_enter Tryd.func46, Tryd.ntmps46
    go_wp2
    go_ret
    exact ⟨_, rfl, World.ownsRow_nil _ _ _ _, Below.refl _ _⟩
  | some x =>
    have hc : ∀ j u, (ds.map Value.string)[j]? = some u → w.cell? (x.add j) = some u := by
      intro j u hj
      have hjl : j < ds.length := by have := (List.getElem?_eq_some_iff.1 hj).1; simpa using this
      rcases hd.2.2 with h0 | ⟨b, o, e, h⟩
      · rw [← hd.1] at h0; omega
      · obtain rfl := Option.some.inj e
        rw [addl, h j hjl]
        simpa [hjl] using hj
    have hl := hd.1
    clear hd
    go_enter Tryd.func46, Tryd.ntmps46
    go_wp2_with (at_builtin; refine wpList_append_own _ rfl _ _ 48 rfl w.heap.size 9 i0 (.string ⟨#[]⟩) 1 16 Tryd.underlying48 hi hz0 hz1 hz2 rfl (by decide) _ 0 [] rfl ?c0 x n c (ds.map Value.string) rfl ?c1 ?c2 ?c3 ?c4 ?c5 ?c6 ?_)
    case c0 => exact World.ownsRow_made w #[] 0 (Nat.le_refl _) (Nat.zero_le _) rfl
    case c1 => simp [hl]
    case c2 => exact fun j u hu => ((((Below.refl w.heap.size w).alloc (Nat.le_refl _) _).cell (World.block_lt_of_cell? w _ (hc j u hu))).trans (hc j u hu))
    case c3 => intro u hu; obtain ⟨x, _, rfl⟩ := List.mem_map.1 hu; rfl
    case c4 => simp [maxLen]; omega
    case c5 => omega
    case c6 => simp
    · intro v' w1 hown' hgrow _
      go_wp2
      go_ret
      exact ⟨_, rfl, by simpa using hown', ((Below.refl _ _).alloc (Nat.le_refl _) _).grown hgrow (by simp) (fun k hk => by simp [Value.ownBlock] at hk; omega)⟩
set_option maxHeartbeats 2000000 in
theorem Clone_any (x : Spc) {w : World} (hd : Dp w x.a x.n x.ds) (hn : x.n ≤ 1000000000) :
    Calls Tryd.prog 41 #[.agg x.cells] w fun e w' => ∃ y : Spc, e = .returned (.agg y.cells) ∧ y = { x with a := y.a, c := y.c } ∧ Below w.heap.size w w' ∧ Dp w' y.a y.n y.ds ∧
      (y.n = 0 ∨ ∃ g cur, y.a = some ⟨g, 0, none⟩ ∧ w.heap.size ≤ g ∧ w'.heap[g]? = some (.cells cur 9 (0, 0)) ∧ y.n ≤ cur.size) := by
  obtain ⟨nm, tn, pr, dl, a, n, c, ds, bs, cp, at', ls, cr, ct⟩ := x
  simp only at hd hn
  obtain ⟨V, hV⟩ : ∃ V, V = (w.alloc (.cells #[.string nm, .string tn, .int .i64 pr, .int .i64 dl, .slice a n c, .int .i64 bs, .int .i64 cp, .int .i64 at', .int .i64 ls, .string cr, .int .i64 ct] 50)).alloc (.cells #[.string ⟨#[]⟩, .string ⟨#[]⟩, .int .i64 0, .int .i64 0, .slice none 0 0, .int .i64 0, .int .i64 0, .int .i64 0, .int .i64 0, .string ⟨#[]⟩, .int .i64 0] 50) := ⟨_, rfl⟩
  have hb1 : Below w.heap.size w V := by rw [hV]; exact ((Below.refl _ w).alloc (Nat.le_refl _) _).alloc (by simp) _
  have hsz : V.heap.size = w.heap.size + 2 := by rw [hV]; simp
  have hx0 : V.heap[w.heap.size]? = some (.cells #[.string nm, .string tn, .int .i64 pr, .int .i64 dl, .slice a n c, .int .i64 bs, .int .i64 cp, .int .i64 at', .int .i64 ls, .string cr, .int .i64 ct] 50 (0, 0)) := by rw [hV]; exact ((Below.refl _ _).alloc (Nat.le_refl _) _ |>.block _ (by simp)).trans (MapKept.heap_alloc w _).1
  have hx00 : V.heap[w.heap.size + 1]? = some (.cells #[.string ⟨#[]⟩, .string ⟨#[]⟩, .int .i64 0, .int .i64 0, .slice none 0 0, .int .i64 0, .int .i64 0, .int .i64 0, .int .i64 0, .string ⟨#[]⟩, .int .i64 0] 50 (0, 0)) := by
    rw [hV]
    have h := (MapKept.heap_alloc (w.alloc (.cells #[.string nm, .string tn, .int .i64 pr, .int .i64 dl, .slice a n c, .int .i64 bs, .int .i64 cp, .int .i64 at', .int .i64 ls, .string cr, .int .i64 ct] 50)) (.cells #[.string ⟨#[]⟩, .string ⟨#[]⟩, .int .i64 0, .int .i64 0, .slice none 0 0, .int .i64 0, .int .i64 0, .int .i64 0, .int .i64 0, .string ⟨#[]⟩, .int .i64 0] 50)).1
    rwa [World.size_alloc] at h
  have HC := Lib.hid (clone_ds (w := V) (c := c) (hd.old hb1) hn)
  have HB := Lib.hid (And.intro hb1 hsz)
  unfold Spc.cells
  simp only
  go_enter Tryd.func41, Tryd.ntmps41
  go_wp2_with fail
  rw [← hV]
  refine HC.out.mono ?_
  rintro e w1 ⟨v, rfl, hown, hb2⟩
  have hx1 := (hb2.block w.heap.size (by omega)).trans hx0
  obtain ⟨a1, c1, rfl, hd1, hr1⟩ := dp_own hown (hd.1)
  obtain ⟨⟨l0, l1, l2, l3, l4, l5, l6, l7, l8, l9, l10⟩, lf⟩ := eleven hx1
  have f4 := lf 4
  obtain ⟨⟨r0, r1, r2, r3, r4, r5, r6, r7, r8, r9, r10⟩, rf⟩ := eleven (old2 hb2 hx00)
  have z0 := rf 0
  have z1 := rf 1
  have z2 := rf 2
  have z3 := rf 3
  have z4 := rf 4
  have z5 := rf 5
  have z6 := rf 6
  have z7 := rf 7
  have z8 := rf 8
  have z9 := rf 9
  have z10 := rf 10
  have hlt : w.heap.size + 1 < w1.heap.size := by have := hb2.size; omega
  go_wp2_with fail
  clear l0 l1 l2 l3 l4 l5 l6 l7 l8 l9 l10 r0 r1 r2 r3 r4 r5 r6 r7 r8 r9 r10 hx0 hx1 f4 z0 z1 z2 z3 z4 z5 z6 z7 z8 z9 z10 lf rf
  have hs2 := hb2.size
  obtain ⟨X, hX⟩ : ∃ X, X = (((((((((((w1.setCell ⟨w.heap.size, 4, none⟩ (.slice a1 n c1)).setCell ⟨w.heap.size + 1, 0, none⟩ (.string nm)).setCell ⟨w.heap.size + 1, 1, none⟩ (.string tn)).setCell ⟨w.heap.size + 1, 2, none⟩ (.int .i64 pr)).setCell ⟨w.heap.size + 1, 3, none⟩ (.int .i64 dl)).setCell ⟨w.heap.size + 1, 4, none⟩ (.slice a1 n c1)).setCell ⟨w.heap.size + 1, 5, none⟩ (.int .i64 bs)).setCell ⟨w.heap.size + 1, 6, none⟩ (.int .i64 cp)).setCell ⟨w.heap.size + 1, 7, none⟩ (.int .i64 at')).setCell ⟨w.heap.size + 1, 8, none⟩ (.int .i64 ls)).setCell ⟨w.heap.size + 1, 9, none⟩ (.string cr)).setCell ⟨w.heap.size + 1, 10, none⟩ (.int .i64 ct) := ⟨_, rfl⟩
  rw [← hX]
  have k0 := (heap_setCell_other w1 ⟨w.heap.size, 4, none⟩ (w.heap.size + 1) (.slice a1 n c1) (by simp)).trans (old2 hb2 hx00)
  have k1 := heap_setCell_same _ _ 0 _ _ (.string nm) k0
  have k2 := heap_setCell_same _ _ 1 _ _ (.string tn) k1
  have k3 := heap_setCell_same _ _ 2 _ _ (.int .i64 pr) k2
  have k4 := heap_setCell_same _ _ 3 _ _ (.int .i64 dl) k3
  have k5 := heap_setCell_same _ _ 4 _ _ (.slice a1 n c1) k4
  have k6 := heap_setCell_same _ _ 5 _ _ (.int .i64 bs) k5
  have k7 := heap_setCell_same _ _ 6 _ _ (.int .i64 cp) k6
  have k8 := heap_setCell_same _ _ 7 _ _ (.int .i64 at') k7
  have k9 := heap_setCell_same _ _ 8 _ _ (.int .i64 ls) k8
  have k10 := heap_setCell_same _ _ 9 _ _ (.string cr) k9
  have k11 := heap_setCell_same _ _ 10 _ _ (.int .i64 ct) k10
  rw [← hX] at k11
  simp only [List.setIfInBounds_toArray, List.set_cons_zero, List.set_cons_succ] at k11
  have hoth : ∀ k, k ≠ w.heap.size → k ≠ w.heap.size + 1 → X.heap[k]? = w1.heap[k]? := by
    intro k h1 h2
    rw [hX]
    iterate 11 rw [heap_setCell_other _ _ _ _ h2]
    rw [heap_setCell_other _ _ _ _ h1]
  have hbX : Below w.heap.size w X := by
    rw [hX]
    iterate 11 refine Below.setCell ?_ (p := ⟨w.heap.size + 1, _, none⟩) (Nat.le_succ _) _
    refine Below.setCell ?_ (p := ⟨w.heap.size, 4, none⟩) (Nat.le_refl _) _
    exact hb1.trans (hb2.mono hb1.size)
  clear k0 k1 k2 k3 k4 k5 k6 k7 k8 k9 k10 hX hV hx00
  obtain ⟨⟨l0, l1, l2, l3, l4, l5, l6, l7, l8, l9, l10⟩, _⟩ := eleven k11
  refine bodyPost_ret (v := .agg #[.string nm, .string tn, .int .i64 pr, .int .i64 dl, .slice a1 n c1, .int .i64 bs, .int .i64 cp, .int .i64 at', .int .i64 ls, .string cr, .int .i64 ct]) ?_ rfl ⟨⟨nm, tn, pr, dl, a1, n, c1, ds, bs, cp, at', ls, cr, ct⟩, rfl, rfl, hbX, ?_⟩
  · rw [results_c1 rfl]
    go_simp
  · rcases hr1 with h0 | ⟨g, cur, rfl, hg, hcur, hcn⟩
    · exact ⟨⟨hd1.1, hd1.2.1, .inl h0⟩, .inl h0⟩
    · have e := hoth g (by omega) (by omega)
      refine ⟨⟨hd1.1, hd1.2.1, ?_⟩, .inr ⟨g, cur, rfl, by omega, e.trans hcur, hcn⟩⟩
      rcases hd1.2.2 with h0 | ⟨b, o, e1, h⟩
      · exact .inl h0
      · obtain ⟨rfl, rfl⟩ : g = b ∧ 0 = o := by simpa using e1
        exact .inr ⟨g, 0, rfl, fun i hi => by rw [World.cell?_of_block e]; exact h i hi⟩
end Go.Proofs.YtcodjknhnhdkfaaDoor.Sp
