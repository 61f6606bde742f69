
/- QuotaPlays: what lies in memory, and what it says -/
import Derived.Test.YthbpgdeaaadlbaaQtC
import Derived.ProofKit
namespace Go.Proofs.Ythbpgdeaaadlbaa.Qt
open Go.RowKit Go.Lib Go.Maps Go.WideElems Go.ChangeMaps Go.MapKept Go.Sort Hp
set_option linter.unusedVariables false
set_option linter.unusedSectionVars false
set_option maxRecDepth 20000
theorem own_kept {w Y : World} {B : Nat} {t : TypeId} {k n : Nat} {v : Value} {xs : List Value} (h : w.ownsRow B t k v n xs) (e : ∀ b, v.ownBlock = some b → Y.heap[b]? = w.heap[b]?) : Y.ownsRow B t k v n xs := by
  rcases h with ⟨h0, h | ⟨g, cap, cur, rfl, h1, h2, h3⟩⟩
  · exact ⟨h0, .inl h⟩
  · refine ⟨h0, .inr ⟨g, cap, cur, rfl, h1, (e g ?_).trans h2, h3⟩⟩
    rfl
theorem own_at {w : World} {B : Nat} {t : TypeId} {k n : Nat} {v : Value} {xs : List Value} (h : w.ownsRow B t k v n xs) {b : Nat} (hb : v.ownBlock = some b) : B ≤ b ∧ b < w.heap.size ∧ ∃ cur, w.heap[b]? = some (.cells cur t (0, 0)) := by
  have h1 := h.lt b hb
  rcases h.2 with ⟨rfl, _⟩ | ⟨g, cap, cur, rfl, _, h2, _⟩
  · cases hb
  · obtain rfl : g = b := by simpa [Value.ownBlock] using hb
    exact ⟨h1.1, h1.2, cur, h2⟩
theorem own_shape {w : World} {B : Nat} {e : TypeId} {k : Nat} {v : Value} {n : Nat} {xs : List Value} (h : w.ownsRow B e k v n xs) : ∃ ao cp, v = .slice ao n cp := by
  rcases h.2 with ⟨rfl, rfl⟩ | ⟨g, cap, cur, rfl, _⟩
  · exact ⟨none, 0, rfl⟩
  · exact ⟨_, cap, rfl⟩
/-- what QuotaPlays has in memory -/
structure St (w X : World) (B lb : Nat) (ea : Int) (nm c b2 b4 b7 bH bM b8 b9 ab : Nat) (A : Obj) (v : Value) (tl : List K) (M H f g : K → Option Int) (nH nM : Nat) : Prop where
  q : ∃ S, Lv S X lb ea nm c M H ∧ (∀ k, S k → w.heap.size ≤ k) ∧ (¬ S b2 ∧ ¬ S b4 ∧ ¬ S b7 ∧ ¬ S bH ∧ ¬ S bM ∧ ¬ S b8 ∧ ¬ S b9 ∧ ¬ S ab) ∧ ∀ k, v.ownBlock = some k → ¬ S k
  e2 : X.heap[b2]? = some (.cells #[.int .i64 ea] 3 (0, 0))
  e4 : ∃ rb, X.heap[b4]? = some (.cells #[.bool rb] 4 (0, 0))
  e7 : X.heap[b7]? = some (.cells #[v] 28 (0, 0))
  e8 : X.heap[b8]? = some (.cells #[.map (some bH)] 29 (0, 0))
  e9 : X.heap[b9]? = some (.cells #[.map (some bM)] 29 (0, 0))
  mH : Mq X bH nH f
  mM : Mq X bM nM g
  row : X.ownsRow B 9 1 v tl.length (tl.map encStr)
  ord : w.heap.size ≤ b2 ∧ b2 < b4 ∧ b4 < b7 ∧ b7 < bH ∧ bH < bM ∧ bM < b8 ∧ b8 < b9 ∧ b9 < B ∧ B ≤ X.heap.size
  a : X.heap[ab]? = some A
  an : ab ≠ b4 ∧ ab ≠ b7 ∧ ab ≠ bH ∧ ab ≠ bM ∧ ab ≠ b8 ∧ ab ≠ b9 ∧ v.ownBlock ≠ some ab
  below : Below w.heap.size w X
section
variable {w X Y : World} {B lb : Nat} {ea : Int} {nm c b2 b4 b7 bH bM b8 b9 ab : Nat} {A : Obj} {v : Value} {tl : List K} {M H f g : K → Option Int} {nH nM : Nat}
theorem St.rowLt (h : St w X B lb ea nm c b2 b4 b7 bH bM b8 b9 ab A v tl M H f g nH nM) {k : Nat} (hk : v.ownBlock = some k) : B ≤ k ∧ k < X.heap.size := h.row.lt k hk
theorem St.abLt (h : St w X B lb ea nm c b2 b4 b7 bH bM b8 b9 ab A v tl M H f g nH nM) : ab < X.heap.size := (Array.getElem?_eq_some_iff.1 h.a).1
theorem St.old (h : St w X B lb ea nm c b2 b4 b7 bH bM b8 b9 ab A v tl M H f g nH nM) (b : Below X.heap.size X Y) : St w Y B lb ea nm c b2 b4 b7 bH bM b8 b9 ab A v tl M H f g nH nM := by
  obtain ⟨S, h1, h2, h3, h4⟩ := h.q
  have o := h.ord
  have hab := h.abLt
  have hk : ∀ k, k < X.heap.size → Y.heap[k]? = X.heap[k]? := b.block
  have hs := b.size
  obtain ⟨rb, e4⟩ := h.e4
  exact ⟨⟨S, h1.below b (Nat.le_refl _), h2, h3, h4⟩, (hk _ (by omega)).trans h.e2, ⟨rb, (hk _ (by omega)).trans e4⟩, (hk _ (by omega)).trans h.e7, (hk _ (by omega)).trans h.e8, (hk _ (by omega)).trans h.e9, h.mH.kept (hk _ (by omega)), h.mM.kept (hk _ (by omega)),
    own_kept h.row fun b hb => hk b (h.rowLt hb).2, ⟨o.1, o.2.1, o.2.2.1, o.2.2.2.1, o.2.2.2.2.1, o.2.2.2.2.2.1, o.2.2.2.2.2.2.1, o.2.2.2.2.2.2.2.1, by omega⟩, (hk _ hab).trans h.a, h.an, h.below.trans (b.mono (by omega))⟩
/-- .. with another counter, another block to look at -/
theorem St.more {c' : Nat} (h : St w X B lb ea nm c b2 b4 b7 bH bM b8 b9 ab A v tl M H f g nH nM) (hc : c ≤ c') : St w X B lb ea nm c' b2 b4 b7 bH bM b8 b9 ab A v tl M H f g nH nM :=
  { h with q := by obtain ⟨S, ⟨mo, ho, nh, h1, h0⟩, h2⟩ := h.q; exact ⟨S, ⟨mo, ho, nh, h1, by omega⟩, h2⟩ }
theorem St.home (h : St w X B lb ea nm c b2 b4 b7 bH bM b8 b9 ab A v tl M H f g nH nM) : St w X B lb ea nm c b2 b4 b7 bH bM b8 b9 b2 (.cells #[.int .i64 ea] 3 (0, 0)) v tl M H f g nH nM := by
  have o := h.ord
  exact { h with
    q := by obtain ⟨S, h1, h2, h3, h4⟩ := h.q; exact ⟨S, h1, h2, ⟨h3.1, h3.2.1, h3.2.2.1, h3.2.2.2.1, h3.2.2.2.2.1, h3.2.2.2.2.2.1, h3.2.2.2.2.2.2.1, h3.1⟩, h4⟩
    a := h.e2
    an := ⟨by omega, by omega, by omega, by omega, by omega, by omega, fun e => by have := (h.rowLt e).1; omega⟩ }
theorem St.box (h : St w X B lb ea nm c b2 b4 b7 bH bM b8 b9 ab A v tl M H f g nH nM) (O : Obj) : St w (X.alloc O) B lb ea nm c b2 b4 b7 bH bM b8 b9 X.heap.size O v tl M H f g nH nM := by
  have o := h.ord
  have h' := h.old ((Below.refl _ X).alloc (Nat.le_refl _) O)
  exact { h' with
    q := by obtain ⟨S, h1, h2, h3, h4⟩ := h.q; exact ⟨S, h1.below ((Below.refl _ X).alloc (Nat.le_refl _) O) (Nat.le_refl _), h2, ⟨h3.1, h3.2.1, h3.2.2.1, h3.2.2.2.1, h3.2.2.2.2.1, h3.2.2.2.2.2.1, h3.2.2.2.2.2.2.1, fun e => by have := h1.size _ e; omega⟩, h4⟩
    a := World.alloc_heap_new X O
    an := ⟨by omega, by omega, by omega, by omega, by omega, by omega, fun e => by have := (h.rowLt e).2; omega⟩ }
/-- the ledger has changed -/
theorem St.led (h : St w X B lb ea nm c b2 b4 b7 bH bM b8 b9 ab A v tl M H f g nH nM) : ∃ S, Lv S X lb ea nm c M H ∧ ∀ {Y : World} {nm' c' : Nat} {M' H' : K → Option Int}, To S X Y lb ea nm' c' M' H' → St w Y B lb ea nm' c' b2 b4 b7 bH bM b8 b9 ab A v tl M' H' f g nH nM := by
  obtain ⟨S, h1, h2, h3, h4⟩ := h.q
  refine ⟨S, h1, fun {Y nm' c' M' H'} t => ?_⟩
  obtain ⟨S', t1, t2, t3⟩ := t
  have o := h.ord
  have hab := h.abLt
  have hk : ∀ k, k < X.heap.size → ¬ S k → Y.heap[k]? = X.heap[k]? := t2.block
  have hs := t2.size
  have hn : ∀ k, k < X.heap.size → ¬ S k → ¬ S' k := fun k hk hn e => by rcases t3 k e with e | e; exact hn e; omega
  obtain ⟨rb, e4⟩ := h.e4
  obtain ⟨n2, n4, n7, nh, nm, n8, n9, na⟩ := h3
  refine ⟨⟨S', t1, fun k hk => ?_, ⟨hn _ (by omega) n2, hn _ (by omega) n4, hn _ (by omega) n7, hn _ (by omega) nh, hn _ (by omega) nm, hn _ (by omega) n8, hn _ (by omega) n9, hn _ hab na⟩, fun k hk => hn k (h.rowLt hk).2 (h4 k hk)⟩, (hk _ (by omega) n2).trans h.e2, ⟨rb, (hk _ (by omega) n4).trans e4⟩, (hk _ (by omega) n7).trans h.e7, (hk _ (by omega) n8).trans h.e8, (hk _ (by omega) n9).trans h.e9, h.mH.kept (hk _ (by omega) nh), h.mM.kept (hk _ (by omega) nm),
    own_kept h.row fun b hb => hk b (h.rowLt hb).2 (h4 b hb), ⟨o.1, o.2.1, o.2.2.1, o.2.2.2.1, o.2.2.2.2.1, o.2.2.2.2.2.1, o.2.2.2.2.2.2.1, o.2.2.2.2.2.2.2.1, by omega⟩, (hk _ hab na).trans h.a, h.an, h.below.trans (t2.below (by omega) h2)⟩
  rcases t3 k hk with e | e
  · exact h2 k e
  · omega
/-- what the law knows of who has how many is stored -/
theorem St.putH (h : St w X B lb ea nm c b2 b4 b7 bH bM b8 b9 ab A v tl M H f g nH nM) (hn : nH < maxLen) {k : K} (hk : wk k) (x : Int) :
    ∃ Y, (Instr.mapUpdate 29 (.map (some bH)) (.string ⟨k.toArray⟩) (.int .i64 x)).run Try.prog X = .ok () Y ∧ St w Y B lb ea nm c b2 b4 b7 bH bM b8 b9 ab A v tl M H (Hp.upd f k x) g (if (f k).isSome then nH else nH + 1) nM := by
  obtain ⟨Y, r1, r2, r3, r4⟩ := put h.mH hn hk x
  obtain ⟨S, h1, h2, h3, h4⟩ := h.q
  have o := h.ord
  have an := h.an
  have hab := h.abLt
  have hkk : ∀ k, k < X.heap.size → k ≠ bH → Y.heap[k]? = X.heap[k]? := fun k h1 h2 => r3.block k h1 (fun e => h2 (Option.some.inj e))
  obtain ⟨rb, e4⟩ := h.e4
  refine ⟨Y, r1, ⟨⟨S, h1.kept r3.size fun k hk => hkk k (h1.size k hk) (fun e => h3.2.2.2.1 (e ▸ hk)), h2, h3, h4⟩, (hkk _ (by omega) (by omega)).trans h.e2, ⟨rb, (hkk _ (by omega) (by omega)).trans e4⟩, (hkk _ (by omega) (by omega)).trans h.e7, (hkk _ (by omega) (by omega)).trans h.e8, (hkk _ (by omega) (by omega)).trans h.e9, r2, h.mM.kept (hkk _ (by omega) (by omega)),
    own_kept h.row fun b hb => hkk b (h.rowLt hb).2 (by have := (h.rowLt hb).1; omega), ⟨o.1, o.2.1, o.2.2.1, o.2.2.2.1, o.2.2.2.2.1, o.2.2.2.2.2.1, o.2.2.2.2.2.2.1, o.2.2.2.2.2.2.2.1, by omega⟩, (hkk _ hab (by omega)).trans h.a, h.an, h.below.grown r3 (by omega) (fun j hj => by cases hj; omega)⟩⟩
/-- .. of who may have how many -/
theorem St.putM (h : St w X B lb ea nm c b2 b4 b7 bH bM b8 b9 ab A v tl M H f g nH nM) (hn : nM < maxLen) {k : K} (hk : wk k) (x : Int) :
    ∃ Y, (Instr.mapUpdate 29 (.map (some bM)) (.string ⟨k.toArray⟩) (.int .i64 x)).run Try.prog X = .ok () Y ∧ St w Y B lb ea nm c b2 b4 b7 bH bM b8 b9 ab A v tl M H f (Hp.upd g k x) nH (if (g k).isSome then nM else nM + 1) := by
  obtain ⟨Y, r1, r2, r3, r4⟩ := put h.mM hn hk x
  obtain ⟨S, h1, h2, h3, h4⟩ := h.q
  have o := h.ord
  have an := h.an
  have hab := h.abLt
  have hkk : ∀ k, k < X.heap.size → k ≠ bM → Y.heap[k]? = X.heap[k]? := fun k h1 h2 => r3.block k h1 (fun e => h2 (Option.some.inj e))
  obtain ⟨rb, e4⟩ := h.e4
  refine ⟨Y, r1, ⟨⟨S, h1.kept r3.size fun k hk => hkk k (h1.size k hk) (fun e => h3.2.2.2.2.1 (e ▸ hk)), h2, h3, h4⟩, (hkk _ (by omega) (by omega)).trans h.e2, ⟨rb, (hkk _ (by omega) (by omega)).trans e4⟩, (hkk _ (by omega) (by omega)).trans h.e7, (hkk _ (by omega) (by omega)).trans h.e8, (hkk _ (by omega) (by omega)).trans h.e9, h.mH.kept (hkk _ (by omega) (by omega)), r2,
    own_kept h.row fun b hb => hkk b (h.rowLt hb).2 (by have := (h.rowLt hb).1; omega), ⟨o.1, o.2.1, o.2.2.1, o.2.2.2.1, o.2.2.2.2.1, o.2.2.2.2.2.1, o.2.2.2.2.2.2.1, o.2.2.2.2.2.2.2.1, by omega⟩, (hkk _ hab (by omega)).trans h.a, h.an, h.below.grown r3 (by omega) (fun j hj => by cases hj; omega)⟩⟩
theorem infoS : (Try.prog.info? 9).map (fun i => (i.zero, i.size, i.bytes)) = some (some (.string ⟨#[]⟩), 1, 16) := by kernel_rfl
theorem info_parts {t : TypeId} {z : Value} {n m : Nat} (h : (Try.prog.info? t).map (fun i => (i.zero, i.size, i.bytes)) = some (some z, n, m)) : ∃ i, Try.prog.info? t = some i ∧ i.zero = some z ∧ i.size = n ∧ i.bytes = m := by
  cases e : Try.prog.info? t with
  | none => rw [e] at h; cases h
  | some i =>
    rw [e] at h
    simp only [Option.map_some, Option.some.injEq, Prod.mk.injEq] at h
    exact ⟨i, rfl, h.1, h.2.1, h.2.2⟩
/-- a text more is told -/
theorem St.app (h : St w X B lb ea nm c b2 b4 b7 bH bM b8 b9 ab A v tl M H f g nH nM) (k : K) (hl : tl.length ≤ 1000000) (ty : TypeId) :
    ∃ ao cp Y, (Builtin.append_ #[28, 28] ty #[v, .slice (some ⟨X.heap.size, 0, none⟩) 1 1]).run Try.prog (X.alloc (.cells #[.string ⟨k.toArray⟩] 9)) = .ok (.slice ao (tl.length + 1) cp) Y ∧
      Y.heap[b7]? = some (.cells #[v] 28 (0, 0)) ∧
      St w (Y.setCell ⟨b7, 0, none⟩ (.slice ao (tl.length + 1) cp)) B lb ea nm c b2 b4 b7 bH bM b8 b9 ab A (.slice ao (tl.length + 1) cp) (tl ++ [k]) M H f g nH nM := by
  obtain ⟨i0, hi0, hz0, hz1, hz2⟩ := info_parts infoS
  obtain ⟨V, hV⟩ : ∃ V, V = X.alloc (.cells #[.string ⟨k.toArray⟩] 9) := ⟨_, rfl⟩
  have bV : Below X.heap.size X V := by rw [hV]; exact (Below.refl _ _).alloc (Nat.le_refl _) _
  have zV : V.heap.size = X.heap.size + 1 := by rw [hV]; simp
  have rV : V.heap[X.heap.size]? = some (.cells #[.string ⟨k.toArray⟩] 9 (0, 0)) := by rw [hV]; exact World.alloc_heap_new X _
  have hc : ∀ j u, [Value.string ⟨k.toArray⟩][j]? = some u → V.cell? ((⟨X.heap.size, 0, none⟩ : Addr).add j) = some u := fun j u hj => by
    match j, hj with
    | 0, hj =>
      simp at hj
      subst hj
      simp only [Addr.add]
      simp [World.cell?, rV]
  have h1 := h.old bV
  have o := h.ord
  obtain ⟨v2, Y, hr, o2, hg, hn2⟩ := Ao.run_append_own_new (P := Try.prog) V B 28 ty 9 i0 _ 1 16 Try.underlying28 hi0 hz0 hz1 hz2 rfl (by decide) v tl.length (tl.map encStr) h1.row ⟨X.heap.size, 0, none⟩ 1 1 [.string ⟨k.toArray⟩] rfl hc (by intro u hu; simp at hu; subst hu; rfl) (by unfold maxLen; omega) (by omega) (by omega)
  obtain ⟨ao, cp, rfl⟩ := own_shape o2
  rw [← hV]
  have hkk : ∀ k, k < V.heap.size → v.ownBlock ≠ some k → Y.heap[k]? = V.heap[k]? := fun k h1 h2 => hg.block k h1 (fun e => h2 e.symm)
  have nb : ∀ {b : Nat}, b < B → v.ownBlock ≠ some b := fun {b} hb e => by have := (h.rowLt e).1; omega
  have y7 : Y.heap[b7]? = some (.cells #[v] 28 (0, 0)) := (hkk b7 (by omega) (nb (by omega))).trans h1.e7
  have oth : ∀ k, k ≠ b7 → (Y.setCell ⟨b7, 0, none⟩ (.slice ao (tl.length + 1) cp)).heap[k]? = Y.heap[k]? := fun k hk => heap_setCell_other _ _ _ _ hk
  have hz := hg.size
  have hab := h1.abLt
  have an := h.an
  obtain ⟨S, q1, q2, q3, q4⟩ := h1.q
  obtain ⟨rb, e4⟩ := h1.e4
  have nw2 : ∀ k, (Value.slice ao (tl.length + 1) cp).ownBlock = some k → v.ownBlock = some k ∨ V.heap.size ≤ k := fun k hk => by
    rcases hn2 with e | ⟨g2, e1, e2⟩
    · rw [hk] at e; exact .inl e.symm
    · rw [hk] at e1; cases e1; exact .inr e2
  have hT : ∀ b, b < B → b ≠ b7 → (Y.setCell ⟨b7, 0, none⟩ (.slice ao (tl.length + 1) cp)).heap[b]? = V.heap[b]? := fun b h1 h2 => (oth b h2).trans (hkk b (by omega) (nb h1))
  refine ⟨ao, cp, Y, hr, y7, ⟨⟨S, q1.kept (by simp; omega) (fun k hk => ?_), q2, q3, fun k hk e => ?_⟩, (hT _ (by omega) (by omega)).trans h1.e2, ⟨rb, (hT _ (by omega) (by omega)).trans e4⟩, ?_, (hT _ (by omega) (by omega)).trans h1.e8, (hT _ (by omega) (by omega)).trans h1.e9, h1.mH.kept (hT _ (by omega) (by omega)), h1.mM.kept (hT _ (by omega) (by omega)), ?_, ⟨o.1, o.2.1, o.2.2.1, o.2.2.2.1, o.2.2.2.2.1, o.2.2.2.2.2.1, o.2.2.2.2.2.2.1, o.2.2.2.2.2.2.2.1, by simp; omega⟩, ?_, ⟨an.1, an.2.1, an.2.2.1, an.2.2.2.1, an.2.2.2.2.1, an.2.2.2.2.2.1, fun e => ?_⟩, ?_⟩⟩
  · rw [oth k (fun e => q3.2.2.1 (e ▸ hk)), hkk k (q1.size k hk) (fun e => q4 k e hk)]
  · rcases nw2 k hk with e2 | e2
    · exact q4 k e2 e
    · have := q1.size k e; omega
  · exact Lib.heap_setCell_same y7 _
  · rw [List.length_append, List.map_append]
    exact own_kept o2 fun b hb => oth b (by have := (o2.lt b hb).1; omega)
  · exact (oth ab an.2.1).trans ((hkk ab hab an.2.2.2.2.2.2).trans h1.a)
  · rcases nw2 ab e with e2 | e2
    · exact an.2.2.2.2.2.2 e2
    · omega
  · exact ((h1.below.grown hg (by omega) (fun j hj => by have := (h.rowLt hj).1; omega)).setCell (by show w.heap.size ≤ b7; omega) _)
end
/-- what it says -/
structure Lo (tl : List K) (M H f g : K → Option Int) : Prop where
  hs : ∀ k, wk k → (f k).getD 0 = has H k
  nd : tl.Nodup
  mem : ∀ k, k ∈ tl → wk k ∧ M k = some ((g k).getD 0)
  non : ∀ k, k ∉ tl → M k = none
section
variable {tl : List K} {M H f g : K → Option Int}
theorem Lo.nil : Lo [] (fun _ => none) (fun _ => none) (fun _ => none) (fun _ => none) := ⟨fun _ _ => rfl, List.nodup_nil, fun k h => by simp at h, fun _ _ => rfl⟩
theorem Lo.knows (h : Lo tl M H f g) (k : K) : (M k).isSome = decide (k ∈ tl) := by
  by_cases e : k ∈ tl
  · rw [(h.mem k e).2]; simp [e]
  · rw [h.non k e]; simp [e]
theorem Lo.may (h : Lo tl M H f g) (ea : Int) (k : K) : may ea M k = if k ∈ tl then (g k).getD 0 else ea := by
  unfold Qt.may
  by_cases e : k ∈ tl
  · rw [if_pos e, (h.mem k e).2]; rfl
  · rw [if_neg e, h.non k e]; rfl
theorem Lo.take (h : Lo tl M H f g) (k : K) : Lo tl M (Hp.upd H k (has H k + 1)) (Hp.upd f k (has H k + 1)) g :=
  ⟨fun k' hk' => by
    rw [has_upd, show (Hp.upd f k (has H k + 1) k').getD 0 = has (Hp.upd f k (has H k + 1)) k' from rfl, has_upd]
    split
    · rfl
    · exact h.hs k' hk', h.nd, h.mem, h.non⟩
theorem Lo.give (h : Lo tl M H f g) (k : K) : Lo tl M (less H k) (Hp.upd f k (has H k - 1)) g :=
  ⟨fun k' hk' => by
    rw [has_less, show (Hp.upd f k (has H k - 1) k').getD 0 = has (Hp.upd f k (has H k - 1)) k' from rfl, has_upd]
    split
    · rfl
    · exact h.hs k' hk', h.nd, h.mem, h.non⟩
theorem Lo.old (h : Lo tl M H f g) {k : K} (hk : k ∈ tl) (n : Int) : Lo tl (Hp.upd M k n) H f (Hp.upd g k n) where
  hs := h.hs
  nd := h.nd
  mem k' hk' := by
    refine ⟨(h.mem k' hk').1, ?_⟩
    unfold Hp.upd
    by_cases e : k' = k
    · simp [e]
    · simp only [if_neg e]; exact (h.mem k' hk').2
  non k' hk' := by
    unfold Hp.upd
    rw [if_neg (show ¬ k' = k from fun e => hk' (by rw [e]; exact hk))]
    exact h.non k' hk'
theorem Lo.new (h : Lo tl M H f g) {k : K} (hw : wk k) (hk : k ∉ tl) (n : Int) : Lo (tl ++ [k]) (Hp.upd M k n) H f (Hp.upd g k n) where
  hs := h.hs
  nd := by
    rw [List.nodup_append]
    exact ⟨h.nd, by simp, by simp; exact fun x hx e => hk (e ▸ hx)⟩
  mem k' hk' := by
    unfold Hp.upd
    by_cases e : k' = k
    · subst e; exact ⟨hw, by simp⟩
    · have := (List.mem_append.1 hk').resolve_right (by simpa using e)
      simp only [if_neg e]; exact h.mem k' this
  non k' hk' := by
    unfold Hp.upd
    have h1 : k' ≠ k := fun e => hk' (by rw [e]; simp)
    rw [if_neg h1]
    exact h.non k' (fun e => hk' (by simp [e]))
end
end Go.Proofs.Ythbpgdeaaadlbaa.Qt
