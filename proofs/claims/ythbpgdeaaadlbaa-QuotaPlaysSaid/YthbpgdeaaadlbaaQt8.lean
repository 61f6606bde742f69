
/- quotas: All -/
import Derived.Test.YthbpgdeaaadlbaaQt7
namespace Go.Proofs.Ythbpgdeaaadlbaa.Qt
open Go.RowKit Go.Lib Go.Maps Go.WideElems Go.ChangeMaps Go.MapKept Go.Sort Hp
set_option linter.unusedVariables false
set_option linter.unusedSectionVars false
set_option maxRecDepth 20000
/-- what All has laid ready to be told -/
structure Tl (B : Nat) (w : World) (b3 b4 : Nat) (ls : List K) (H : K → Option Int) : Prop where
  c3 : ∃ ho n, w.cell? ⟨b3, 0, none⟩ = some (.map ho) ∧ Ms w ho n H ∧ ∀ b, ho = some b → B ≤ b ∧ b < w.heap.size
  c4 : ∃ v, w.cell? ⟨b4, 0, none⟩ = some v ∧ Rw w v ls ∧ ∀ a n c, v = .slice (some a) n c → B ≤ a.block ∧ a.block < w.heap.size
  l : B ≤ b3 ∧ b3 < w.heap.size ∧ B ≤ b4 ∧ b4 < w.heap.size
  ks : Ks H ls
  len : ls.length ≤ 1000000
theorem c1_of {w : World} {b : Nat} {v : Value} {t : TypeId} (h : w.heap[b]? = some (.cells #[v] t (0, 0))) : w.cell? ⟨b, 0, none⟩ = some v ∧ w.frozen? ⟨b, 0, none⟩ = false := by
  constructor <;> simp [World.cell?, World.frozen?, h]
section
variable {S : Nat → Prop} {w : World} {lb : Nat} {ea : Int} {nm c : Nat} {M H : K → Option Int}
/-- the keys of a map, or of none, sorted -/
theorem sorted_any {W : World} {o : Option Nat} {n : Nat} (h : Ms W o n H) (hn : n ≤ 1000000) :
    Calls Try.prog 19 #[.func (.func 25) #[] #[.pointer (some ⟨W.heap.size, 0, none⟩)]] (W.alloc (.cells #[.map o] 29)) fun e w' => ∃ v ls, e = .returned v ∧ Ks H ls ∧ ls.length ≤ 1000000 ∧ Rw w' v ls ∧ (∀ a n c, v = .slice (some a) n c → W.heap.size + 1 ≤ a.block ∧ a.block < w'.heap.size) ∧
      Below (W.heap.size + 1) (W.alloc (.cells #[.map o] 29)) w' := by
  cases o with
  | none =>
    refine (sorted_none W).mono ?_
    rintro e w' ⟨rfl, hb⟩
    exact ⟨_, [], rfl, ks_none h.2, by simp, .inl ⟨rfl, rfl⟩, (fun a n c e => by cases e), hb⟩
  | some b =>
    obtain ⟨D, h1, h2, h3⟩ := mq_keys h
    refine (sorted_some b n D _ W h1 (by omega)).mono ?_
    rintro e w' ⟨v, ss, rfl, hp, hr, hnil, hb⟩
    obtain ⟨k1, k2⟩ := h3 ss hp
    have hl : (ss.mergeSort (fun x y => decide (x ≤ y))).length = ss.length := by simp
    obtain ⟨r1, r2⟩ := rw_own hr hl.symm
    exact ⟨v, _, rfl, k1, by omega, r1, r2, hb⟩
set_option maxHeartbeats 1000000 in
theorem All_any (h : Lv S w lb ea nm c M H) (hc : c ≤ 1000000) : Calls Try.prog 15 #[.pointer (some ⟨lb, 0, none⟩)] w fun e w' =>
    ∃ b3 b4 ls, e = .returned (.func (.func 21) #[] #[.pointer (some ⟨b4, 0, none⟩), .pointer (some ⟨b3, 0, none⟩)]) ∧ Tl w.heap.size w' b3 b4 ls H ∧ Below w.heap.size w w' := by
  obtain ⟨mo, ho, nh, q, hn⟩ := h
  obtain ⟨V, hV⟩ : ∃ V, V = w.alloc (.cells #[.map none] 29) := ⟨_, rfl⟩
  have bV : Below w.heap.size w V := by rw [hV]; exact (Below.refl _ w).alloc (Nat.le_refl _) _
  have rV : V.heap[w.heap.size]? = some (.cells #[.map none] 29 (0, 0)) := by rw [hV]; exact (MapKept.heap_alloc w _).1
  have zV : V.heap.size = w.heap.size + 1 := by rw [hV]; simp
  have qV := q.below bV (Nat.le_refl _)
  have c2 := q.cells.2.2
  have hlt := q.size lb q.own
  have hcl := ms_clone qV.has
  have HV := Lib.hid (And.intro bV (And.intro rV (And.intro zV (show nh ≤ 1000000 by omega))))
  clear bV rV zV qV q hn hc
  go_enter Try.func15, Try.ntmps15
  go_wp2_with fail
  rw [← hV]
  clear hV hlt
  refine hcl.mono ?_
  rintro e w1 ⟨o1, rfl, hm1, hn1, hb1⟩
  have r1 := (hb1.block w.heap.size (by have := HV.out.2.2.1; omega)).trans HV.out.2.1
  obtain ⟨cx, fx⟩ := c1_of r1
  have H1 := Lib.hid (And.intro hm1 (And.intro hn1 (And.intro hb1 r1)))
  clear hm1 hn1 hb1 r1 hcl c2
  generalize hbx : w.heap.size = bx at *
  go_wp2_with fail
  obtain ⟨W2, hW2⟩ : ∃ W, W = w1.setCell ⟨bx, 0, none⟩ (.map o1) := ⟨_, rfl⟩
  rw [← hW2]
  have r2 : W2.heap[bx]? = some (.cells #[.map o1] 29 (0, 0)) := by rw [hW2]; exact Lib.heap_setCell_same H1.out.2.2.2 _
  have o2 : ∀ k, k ≠ bx → W2.heap[k]? = w1.heap[k]? := fun k hk => by rw [hW2]; exact heap_setCell_other _ _ _ _ hk
  have z2 : W2.heap.size = w1.heap.size := by rw [hW2]; simp
  have m2 : Ms W2 o1 nh H := H1.out.1.kept fun b e => o2 b (by have := (H1.out.2.1 b e).1; have := HV.out.2.2.1; omega)
  have b2 : Below bx w1 W2 := by rw [hW2]; exact (Below.refl bx w1).setCell (p := ⟨bx, 0, none⟩) (Nat.le_refl bx) _
  have hs := sorted_any m2 HV.out.2.2.2
  obtain ⟨cy, fy⟩ := c1_of r2
  have H2 := Lib.hid (And.intro r2 (And.intro m2 (And.intro z2 b2)))
  clear r2 o2 z2 m2 b2 hW2 cx fx
  refine (keys_any o1 W2).mono ?_
  rintro e W3 ⟨rfl, hW3⟩
  rw [← hW3] at hs
  have r3 : W3.heap[bx]? = some (.cells #[.map o1] 29 (0, 0)) := by rw [hW3]; exact (Below.heap_alloc W2 _ bx (Array.getElem?_eq_some_iff.1 H2.out.1).1).trans H2.out.1
  have z3 : W3.heap.size = W2.heap.size + 1 := by rw [hW3]; simp
  have b3 : Below W2.heap.size W2 W3 := by rw [hW3]; exact (Below.refl _ _).alloc (Nat.le_refl _) _
  have H3 := Lib.hid (And.intro r3 (And.intro z3 b3))
  clear r3 z3 b3 hW3 cy fy
  generalize hy : W2.heap.size = by2 at *
  go_wp2_with fail
  refine hs.mono ?_
  rintro e W4 ⟨v, ls, rfl, k1, k2, k3, k4, k5⟩
  obtain ⟨a, cp, rfl⟩ := k3.shape
  have H4 := Lib.hid (And.intro k1 (And.intro k2 (And.intro k3 (And.intro k4 k5))))
  clear k1 k2 k3 k4 k5 hs
  generalize hll : ls.length = n at *
  go_wp2_with fail
  go_ret
  obtain ⟨bV, rV, zV, hnn⟩ := HV.out
  obtain ⟨hm1, hn1, hb1, r1⟩ := H1.out
  obtain ⟨r2, m2, z2, b2⟩ := H2.out
  obtain ⟨r3, z3, b3⟩ := H3.out
  obtain ⟨k1, k2, k3, k4, k5⟩ := H4.out
  obtain ⟨W5, hW5⟩ : ∃ X, X = W4.alloc (.cells #[.slice a n cp] 28) := ⟨_, rfl⟩
  rw [← hW5]
  have r5 : W5.heap[W4.heap.size]? = some (.cells #[.slice a n cp] 28 (0, 0)) := by rw [hW5]; exact (MapKept.heap_alloc W4 _).1
  have o5 : ∀ k, k < W4.heap.size → W5.heap[k]? = W4.heap[k]? := fun k hk => by rw [hW5]; exact Below.heap_alloc W4 _ k hk
  have z5 : W5.heap.size = W4.heap.size + 1 := by rw [hW5]; simp
  have b5 : Below W4.heap.size W4 W5 := by rw [hW5]; exact (Below.refl _ _).alloc (Nat.le_refl _) _
  have y1 := hb1.size
  have y4 := k5.size
  have r4 : W4.heap[bx]? = some (.cells #[.map o1] 29 (0, 0)) := (k5.block bx (by omega)).trans r3
  have m4 : Ms W4 o1 nh H := m2.kept fun b e => (k5.block b (by have := (hn1 b e).2; omega)).trans (b3.block b (by have := (hn1 b e).2; omega))
  refine ⟨bx, W4.heap.size, ls, by simp, ⟨⟨o1, nh, (c1_of ((o5 bx (by omega)).trans r4)).1, m4.kept fun b e => o5 b (by have := (hn1 b e).2; omega), fun b e => ⟨by have := (hn1 b e).1; omega, by have := (hn1 b e).2; omega⟩⟩, ⟨_, (c1_of r5).1, k3.kept fun a n c e => o5 _ (k4 a n c e).2, fun a n c e => ⟨by have := (k4 a n c e).1; omega, by have := (k4 a n c e).2; omega⟩⟩, ⟨by omega, by omega, by omega, by omega⟩, k1, by omega⟩, ?_⟩
  have e1 : Below bx w w1 := bV.trans (hb1.mono (by omega))
  rw [hbx]
  exact (((e1.trans b2).trans (b3.mono (by omega))).trans (k5.mono (by omega))).trans (b5.mono (by omega))
set_option maxHeartbeats 1000000 in
theorem All_nil (w : World) : Calls Try.prog 15 #[.pointer none] w fun e w' =>
    ∃ b3 b4 ls, e = .returned (.func (.func 21) #[] #[.pointer (some ⟨b4, 0, none⟩), .pointer (some ⟨b3, 0, none⟩)]) ∧ Tl w.heap.size w' b3 b4 ls (fun _ => none) ∧ Below w.heap.size w w' := by
  obtain ⟨V, hV⟩ : ∃ V, V = w.alloc (.cells #[.map none] 29) := ⟨_, rfl⟩
  have bV : Below w.heap.size w V := by rw [hV]; exact (Below.refl _ w).alloc (Nat.le_refl _) _
  have rV : V.heap[w.heap.size]? = some (.cells #[.map none] 29 (0, 0)) := by rw [hV]; exact (MapKept.heap_alloc w _).1
  have zV : V.heap.size = w.heap.size + 1 := by rw [hV]; simp
  obtain ⟨cx, fx⟩ := c1_of rV
  have m2 : Ms V none 0 (fun _ : K => none) := ⟨rfl, fun _ => rfl⟩
  have hs := sorted_any m2 (by omega)
  have HV := Lib.hid (And.intro bV (And.intro rV zV))
  clear bV rV zV m2
  go_enter Try.func15, Try.ntmps15
  go_wp2_with fail
  rw [← hV]
  clear hV
  generalize hbx : w.heap.size = bx at *
  go_wp2_with fail
  refine (keys_any none V).mono ?_
  rintro e W3 ⟨rfl, hW3⟩
  rw [← hW3] at hs
  have r3 : W3.heap[bx]? = some (.cells #[.map none] 29 (0, 0)) := by rw [hW3]; exact (Below.heap_alloc V _ bx (Array.getElem?_eq_some_iff.1 HV.out.2.1).1).trans HV.out.2.1
  have z3 : W3.heap.size = V.heap.size + 1 := by rw [hW3]; simp
  have b3 : Below V.heap.size V W3 := by rw [hW3]; exact (Below.refl _ _).alloc (Nat.le_refl _) _
  have H3 := Lib.hid (And.intro r3 (And.intro z3 b3))
  clear r3 z3 b3 hW3 cx fx
  generalize hy : V.heap.size = by2 at *
  go_wp2_with fail
  refine hs.mono ?_
  rintro e W4 ⟨v, ls, rfl, k1, k2, k3, k4, k5⟩
  obtain ⟨a, cp, rfl⟩ := k3.shape
  have H4 := Lib.hid (And.intro k1 (And.intro k2 (And.intro k3 (And.intro k4 k5))))
  clear k1 k2 k3 k4 k5 hs
  generalize hll : ls.length = n at *
  go_wp2_with fail
  go_ret
  obtain ⟨bV, rV, zV⟩ := HV.out
  obtain ⟨r3, z3, b3⟩ := H3.out
  obtain ⟨k1, k2, k3, k4, k5⟩ := H4.out
  obtain ⟨W5, hW5⟩ : ∃ X, X = W4.alloc (.cells #[.slice a n cp] 28) := ⟨_, rfl⟩
  rw [← hW5]
  have r5 : W5.heap[W4.heap.size]? = some (.cells #[.slice a n cp] 28 (0, 0)) := by rw [hW5]; exact (MapKept.heap_alloc W4 _).1
  have o5 : ∀ k, k < W4.heap.size → W5.heap[k]? = W4.heap[k]? := fun k hk => by rw [hW5]; exact Below.heap_alloc W4 _ k hk
  have z5 : W5.heap.size = W4.heap.size + 1 := by rw [hW5]; simp
  have b5 : Below W4.heap.size W4 W5 := by rw [hW5]; exact (Below.refl _ _).alloc (Nat.le_refl _) _
  have y4 := k5.size
  have r4 : W4.heap[bx]? = some (.cells #[.map none] 29 (0, 0)) := (k5.block bx (by omega)).trans r3
  refine ⟨bx, W4.heap.size, ls, by simp, ⟨⟨none, 0, (c1_of ((o5 bx (by omega)).trans r4)).1, ⟨rfl, fun _ => rfl⟩, fun b e => by cases e⟩, ⟨_, (c1_of r5).1, k3.kept fun a n c e => o5 _ (k4 a n c e).2, fun a n c e => ⟨by have := (k4 a n c e).1; omega, by have := (k4 a n c e).2; omega⟩⟩, ⟨by omega, by omega, by omega, by omega⟩, k1, by omega⟩, ?_⟩
  rw [hbx]
  exact ((bV.trans (b3.mono (by omega))).trans (k5.mono (by omega))).trans (b5.mono (by omega))
end
end Go.Proofs.Ythbpgdeaaadlbaa.Qt
