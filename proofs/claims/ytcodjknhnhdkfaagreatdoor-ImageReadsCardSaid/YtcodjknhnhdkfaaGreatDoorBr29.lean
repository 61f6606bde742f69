/- jobs as bytes: GetJob -/
import Derived.Test.YtcodjknhnhdkfaaGreatDoorBr28
import Derived.Test.YtcodjknhnhdkfaaGreatDoorBr06
import Derived.Test.YtcodjknhnhdkfaaGreatDoorBr08
import Derived.Lib.AppendZeros
import Derived.Test.YtcodjknhnhdkfaaGreatDoorBrSp7
namespace Go.Proofs.YtcodjknhnhdkfaaGreatDoor.Im
open Go.RowKit Go.Lib Wn Rf By Cm
set_option linter.unusedVariables false
set_option maxRecDepth 20000
/-- what Get answers -/
def GotSpT (rb : Nat) (l : List UInt8) (er : Int) (w : World) (e : Ending) (w' : World) : Prop :=
  ∃ (x : Sp.Spc) (l' : List UInt8) (er' : Int), e = .returned (.agg x.cells) ∧ x.wf ∧ Sp.Dp w' x.a x.n x.ds ∧ Rd w' rb l' er' ∧ Ar rb w w' ∧ (er' = 0 → er = 0 ∧ l = Sp.specB x ++ l') ∧ (er' ≠ 0 → x = zsp) ∧ x.n ≤ 255 ∧ (x.n = 0 ∨ ∃ g cur, x.a = some ⟨g, 0, none⟩ ∧ w.heap.size ≤ g ∧ w'.heap[g]? = some (.cells cur 9 (0, 0)))
set_option maxHeartbeats 4000000 in
theorem spGetT (rb : Nat) (l0 : List UInt8) (e0 : Int) (w : World) (h : Rd w rb l0 e0) :
    Calls Tryz.prog 36 #[.pointer (some ⟨rb, 0, none⟩)] w (GotSpT rb l0 e0 w) := by
  have hrb := h.lt
  obtain ⟨U0, hV⟩ : ∃ V, V = (w.alloc (.cells #[.string ⟨#[]⟩, .string ⟨#[]⟩, .int .i64 0, .int .i64 0, .slice none 0 0, .int .i64 0, .int .i64 0, .int .i64 0, .int .i64 0, .string ⟨#[]⟩, .int .i64 0] 40)).alloc (.cells #[.string ⟨#[]⟩, .string ⟨#[]⟩, .int .i64 0, .int .i64 0, .slice none 0 0, .int .i64 0, .int .i64 0, .int .i64 0, .int .i64 0, .string ⟨#[]⟩, .int .i64 0] 40) := ⟨_, rfl⟩
  have hb : Below w.heap.size w U0 := by rw [hV]; exact ((Below.refl _ _).alloc (Nat.le_refl _) _).alloc (by simp) _
  have g0 : Gs w rb #[.string ⟨#[]⟩, .string ⟨#[]⟩, .int .i64 0, .int .i64 0, .slice none 0 0, .int .i64 0, .int .i64 0, .int .i64 0, .int .i64 0, .string ⟨#[]⟩, .int .i64 0] U0 l0 e0 := by
    refine ⟨?_, ?_, h.below hb, Ar.ofBelow hb⟩
    · rw [hV]; exact ((Below.refl (w.heap.size + 1) _).alloc (by simp) _ |>.block _ (by omega)).trans (heap_alloc_new w _)
    · rw [hV]
      have := heap_alloc_new (w.alloc (.cells #[.string ⟨#[]⟩, .string ⟨#[]⟩, .int .i64 0, .int .i64 0, .slice none 0 0, .int .i64 0, .int .i64 0, .int .i64 0, .int .i64 0, .string ⟨#[]⟩, .int .i64 0] 40)) (.cells #[.string ⟨#[]⟩, .string ⟨#[]⟩, .int .i64 0, .int .i64 0, .slice none 0 0, .int .i64 0, .int .i64 0, .int .i64 0, .int .i64 0, .string ⟨#[]⟩, .int .i64 0] 40)
      rwa [World.size_alloc] at this
  clear hb h
  go_enter Tryz.func36, Tryz.ntmps36
  have G0 := Lib.hid g0
  have HC := Lib.hid (sptext_r rb l0 e0 U0 G0.out.rd)
  clear g0
  go_wp2_with fail
  rw [← hV]
  have HV := Lib.hid hV
  clear hV
  refine HC.out.mono ?_
  rintro e W1 ⟨nm, l1, e1, rfl, hr, hA, hk, -⟩
  clear HC
  have hk2 := hk
  have hA' := hA.ar
  clear hk
  have g := G0.out.call hrb hA' hr
  obtain ⟨⟨c0, c1, c2, c3, c4, c5, c6, c7, c8, c9, c10⟩, fz⟩ := Sp.eleven g.sb
  have fz0 := fz 0
  clear fz hr hA
  have Hk0 := Lib.hid hk2
  have GG := Lib.hid g
  clear g hk2
  obtain ⟨U1, hU⟩ : ∃ U, U = W1.setCell ⟨w.heap.size + 1, 0, none⟩ (.string nm) := ⟨_, rfl⟩
  have g1 : Gs w rb #[.string nm, .string ⟨#[]⟩, .int .i64 0, .int .i64 0, .slice none 0 0, .int .i64 0, .int .i64 0, .int .i64 0, .int .i64 0, .string ⟨#[]⟩, .int .i64 0] U1 l1 e1 := by rw [hU]; exact GG.out.set hrb 0 _
  have UH1 := Lib.hid hU
  clear hU hA'
  have G1 := Lib.hid g1
  have HC := Lib.hid (sptext_r rb l1 e1 U1 G1.out.rd)
  clear g1
  go_wp2_with fail
  rw [← UH1.out]
  clear c0 c1 c2 c3 c4 c5 c6 c7 c8 c9 c10 fz0
  refine HC.out.mono ?_
  rintro e W2 ⟨tn, l2, e2, rfl, hr, hA, hk, -⟩
  clear HC
  have hk2 := hk
  have hA' := hA.ar
  clear hk
  have g := G1.out.call hrb hA' hr
  obtain ⟨⟨c0, c1, c2, c3, c4, c5, c6, c7, c8, c9, c10⟩, fz⟩ := Sp.eleven g.sb
  have fz1 := fz 1
  clear fz hr hA
  have Hk1 := Lib.hid hk2
  have GG := Lib.hid g
  clear g hk2
  obtain ⟨U2, hU⟩ : ∃ U, U = W2.setCell ⟨w.heap.size + 1, 1, none⟩ (.string tn) := ⟨_, rfl⟩
  have g2 : Gs w rb #[.string nm, .string tn, .int .i64 0, .int .i64 0, .slice none 0 0, .int .i64 0, .int .i64 0, .int .i64 0, .int .i64 0, .string ⟨#[]⟩, .int .i64 0] U2 l2 e2 := by rw [hU]; exact GG.out.set hrb 1 _
  have UH2 := Lib.hid hU
  clear hU hA'
  have G2 := Lib.hid g2
  have HC := Lib.hid (int_r rb l2 e2 U2 G2.out.rd)
  clear g2
  go_wp2_with fail
  rw [← UH2.out]
  clear c0 c1 c2 c3 c4 c5 c6 c7 c8 c9 c10 fz1
  refine HC.out.mono ?_
  rintro e W3 ⟨pr, l3, e3, rfl, wf2, hr, hA, hk⟩
  clear HC
  have hk2 := hk
  have hA' := hA.ar
  clear hk
  have g := G2.out.call hrb hA' hr
  obtain ⟨⟨c0, c1, c2, c3, c4, c5, c6, c7, c8, c9, c10⟩, fz⟩ := Sp.eleven g.sb
  have fz2 := fz 2
  clear fz hr hA
  have Hk2 := Lib.hid hk2
  have GG := Lib.hid g
  clear g hk2
  obtain ⟨U3, hU⟩ : ∃ U, U = W3.setCell ⟨w.heap.size + 1, 2, none⟩ (.int .i64 pr) := ⟨_, rfl⟩
  have g3 : Gs w rb #[.string nm, .string tn, .int .i64 pr, .int .i64 0, .slice none 0 0, .int .i64 0, .int .i64 0, .int .i64 0, .int .i64 0, .string ⟨#[]⟩, .int .i64 0] U3 l3 e3 := by rw [hU]; exact GG.out.set hrb 2 _
  have UH3 := Lib.hid hU
  clear hU hA'
  have G3 := Lib.hid g3
  have HC := Lib.hid (int_r rb l3 e3 U3 G3.out.rd)
  clear g3
  go_wp2_with fail
  rw [← UH3.out]
  clear c0 c1 c2 c3 c4 c5 c6 c7 c8 c9 c10 fz2
  refine HC.out.mono ?_
  rintro e W4 ⟨dl, l4, e4, rfl, wf3, hr, hA, hk⟩
  clear HC
  have hk2 := hk
  have hA' := hA.ar
  clear hk
  have g := G3.out.call hrb hA' hr
  obtain ⟨⟨c0, c1, c2, c3, c4, c5, c6, c7, c8, c9, c10⟩, fz⟩ := Sp.eleven g.sb
  have fz3 := fz 3
  clear fz hr hA
  have Hk3 := Lib.hid hk2
  have GG := Lib.hid g
  clear g hk2
  obtain ⟨U4, hU⟩ : ∃ U, U = W4.setCell ⟨w.heap.size + 1, 3, none⟩ (.int .i64 dl) := ⟨_, rfl⟩
  have g4 : Gs w rb #[.string nm, .string tn, .int .i64 pr, .int .i64 dl, .slice none 0 0, .int .i64 0, .int .i64 0, .int .i64 0, .int .i64 0, .string ⟨#[]⟩, .int .i64 0] U4 l4 e4 := by rw [hU]; exact GG.out.set hrb 3 _
  have UH4 := Lib.hid hU
  clear hU hA'
  have G4 := Lib.hid g4
  have HC := Lib.hid (get_s rb 255 l4 e4 U4 G4.out.rd (by decide))
  clear g4
  go_wp2_with fail
  rw [← UH4.out]
  clear c0 c1 c2 c3 c4 c5 c6 c7 c8 c9 c10 fz3
  refine HC.out.mono ?_
  rintro e W5 ⟨v, ds, l5, e5, rfl, hrow, hn, hr, hA, hk, -, -⟩
  clear HC
  obtain ⟨a, c, rfl, hd, hg⟩ := Sp.dp_own (n := ds.length) hrow rfl
  have hk2 : e5 = 0 → e4 = 0 ∧ l4 = (uvarint ds.length ++ ds.flatMap textB) ++ l5 := fun q => ⟨(hk q).1, by rw [List.append_assoc]; exact (hk q).2⟩
  have HD := Lib.hid (And.intro hd (And.intro hg hn))
  have hA' := hA
  clear hk hrow hd hg hn
  have g := G4.out.call hrb hA' hr
  obtain ⟨⟨c0, c1, c2, c3, c4, c5, c6, c7, c8, c9, c10⟩, fz⟩ := Sp.eleven g.sb
  have fz4 := fz 4
  clear fz hr hA
  have Hk4 := Lib.hid hk2
  have GG := Lib.hid g
  clear g hk2
  have K5 := Lib.hid (show ∀ k, w.heap.size + 2 ≤ k → W5.heap[k]? = W5.heap[k]? from fun _ _ => rfl)
  have hU4 := Lib.hid (show w.heap.size + 2 ≤ U4.heap.size from lt_of_block G4.out.sb)
  obtain ⟨U5, hU⟩ : ∃ U, U = W5.setCell ⟨w.heap.size + 1, 4, none⟩ (.slice a ds.length c) := ⟨_, rfl⟩
  have g5 : Gs w rb #[.string nm, .string tn, .int .i64 pr, .int .i64 dl, .slice a ds.length c, .int .i64 0, .int .i64 0, .int .i64 0, .int .i64 0, .string ⟨#[]⟩, .int .i64 0] U5 l5 e5 := by rw [hU]; exact GG.out.set hrb 4 _
  have KU5 := Lib.hid (show ∀ k, w.heap.size + 2 ≤ k → k < W5.heap.size → U5.heap[k]? = W5.heap[k]? from fun k hk hk5 => by rw [hU]; exact (heap_setCell_other W5 ⟨w.heap.size + 1, 4, none⟩ k _ (by show k ≠ w.heap.size + 1; omega)).trans rfl)
  have sz5 := Lib.hid (show W5.heap.size ≤ U5.heap.size by rw [hU]; simp [World.setCell])
  have UH5 := Lib.hid hU
  clear hU hA'
  have G5 := Lib.hid g5
  have HC := Lib.hid (int_r rb l5 e5 U5 G5.out.rd)
  clear g5
  go_wp2_with fail
  rw [← UH5.out]
  clear c0 c1 c2 c3 c4 c5 c6 c7 c8 c9 c10 fz4
  refine HC.out.mono ?_
  rintro e W6 ⟨bs, l6, e6, rfl, wf5, hr, hA, hk⟩
  clear HC
  have hk2 := hk
  have hA' := hA.ar
  clear hk
  have g := G5.out.call hrb hA' hr
  obtain ⟨⟨c0, c1, c2, c3, c4, c5, c6, c7, c8, c9, c10⟩, fz⟩ := Sp.eleven g.sb
  have fz5 := fz 5
  clear fz hr hA
  have Hk5 := Lib.hid hk2
  have GG := Lib.hid g
  clear g hk2
  have K6 := Lib.hid (show ∀ k, w.heap.size + 2 ≤ k → k < W5.heap.size → W6.heap[k]? = W5.heap[k]? from fun k hk hk5 => (hA'.block k (Nat.lt_of_lt_of_le hk5 sz5.out) (by omega)).trans (KU5.out k hk hk5))
  obtain ⟨U6, hU⟩ : ∃ U, U = W6.setCell ⟨w.heap.size + 1, 5, none⟩ (.int .i64 bs) := ⟨_, rfl⟩
  have g6 : Gs w rb #[.string nm, .string tn, .int .i64 pr, .int .i64 dl, .slice a ds.length c, .int .i64 bs, .int .i64 0, .int .i64 0, .int .i64 0, .string ⟨#[]⟩, .int .i64 0] U6 l6 e6 := by rw [hU]; exact GG.out.set hrb 5 _
  have KU6 := Lib.hid (show ∀ k, w.heap.size + 2 ≤ k → k < W5.heap.size → U6.heap[k]? = W5.heap[k]? from fun k hk hk5 => by rw [hU]; exact (heap_setCell_other W6 ⟨w.heap.size + 1, 5, none⟩ k _ (by show k ≠ w.heap.size + 1; omega)).trans (K6.out k hk hk5))
  have sz6 := Lib.hid (show W5.heap.size ≤ U6.heap.size by rw [hU]; have := sz5.out; have := hA'.size; simp [World.setCell]; omega)
  have UH6 := Lib.hid hU
  clear hU hA'
  have G6 := Lib.hid g6
  have HC := Lib.hid (int_r rb l6 e6 U6 G6.out.rd)
  clear g6
  go_wp2_with fail
  rw [← UH6.out]
  clear c0 c1 c2 c3 c4 c5 c6 c7 c8 c9 c10 fz5
  refine HC.out.mono ?_
  rintro e W7 ⟨cp, l7, e7, rfl, wf6, hr, hA, hk⟩
  clear HC
  have hk2 := hk
  have hA' := hA.ar
  clear hk
  have g := G6.out.call hrb hA' hr
  obtain ⟨⟨c0, c1, c2, c3, c4, c5, c6, c7, c8, c9, c10⟩, fz⟩ := Sp.eleven g.sb
  have fz6 := fz 6
  clear fz hr hA
  have Hk6 := Lib.hid hk2
  have GG := Lib.hid g
  clear g hk2
  have K7 := Lib.hid (show ∀ k, w.heap.size + 2 ≤ k → k < W5.heap.size → W7.heap[k]? = W5.heap[k]? from fun k hk hk5 => (hA'.block k (Nat.lt_of_lt_of_le hk5 sz6.out) (by omega)).trans (KU6.out k hk hk5))
  obtain ⟨U7, hU⟩ : ∃ U, U = W7.setCell ⟨w.heap.size + 1, 6, none⟩ (.int .i64 cp) := ⟨_, rfl⟩
  have g7 : Gs w rb #[.string nm, .string tn, .int .i64 pr, .int .i64 dl, .slice a ds.length c, .int .i64 bs, .int .i64 cp, .int .i64 0, .int .i64 0, .string ⟨#[]⟩, .int .i64 0] U7 l7 e7 := by rw [hU]; exact GG.out.set hrb 6 _
  have KU7 := Lib.hid (show ∀ k, w.heap.size + 2 ≤ k → k < W5.heap.size → U7.heap[k]? = W5.heap[k]? from fun k hk hk5 => by rw [hU]; exact (heap_setCell_other W7 ⟨w.heap.size + 1, 6, none⟩ k _ (by show k ≠ w.heap.size + 1; omega)).trans (K7.out k hk hk5))
  have sz7 := Lib.hid (show W5.heap.size ≤ U7.heap.size by rw [hU]; have := sz6.out; have := hA'.size; simp [World.setCell]; omega)
  have UH7 := Lib.hid hU
  clear hU hA'
  have G7 := Lib.hid g7
  have HC := Lib.hid (int_r rb l7 e7 U7 G7.out.rd)
  clear g7
  go_wp2_with fail
  rw [← UH7.out]
  clear c0 c1 c2 c3 c4 c5 c6 c7 c8 c9 c10 fz6
  refine HC.out.mono ?_
  rintro e W8 ⟨at', l8, e8, rfl, wf7, hr, hA, hk⟩
  clear HC
  have hk2 := hk
  have hA' := hA.ar
  clear hk
  have g := G7.out.call hrb hA' hr
  obtain ⟨⟨c0, c1, c2, c3, c4, c5, c6, c7, c8, c9, c10⟩, fz⟩ := Sp.eleven g.sb
  have fz7 := fz 7
  clear fz hr hA
  have Hk7 := Lib.hid hk2
  have GG := Lib.hid g
  clear g hk2
  have K8 := Lib.hid (show ∀ k, w.heap.size + 2 ≤ k → k < W5.heap.size → W8.heap[k]? = W5.heap[k]? from fun k hk hk5 => (hA'.block k (Nat.lt_of_lt_of_le hk5 sz7.out) (by omega)).trans (KU7.out k hk hk5))
  obtain ⟨U8, hU⟩ : ∃ U, U = W8.setCell ⟨w.heap.size + 1, 7, none⟩ (.int .i64 at') := ⟨_, rfl⟩
  have g8 : Gs w rb #[.string nm, .string tn, .int .i64 pr, .int .i64 dl, .slice a ds.length c, .int .i64 bs, .int .i64 cp, .int .i64 at', .int .i64 0, .string ⟨#[]⟩, .int .i64 0] U8 l8 e8 := by rw [hU]; exact GG.out.set hrb 7 _
  have KU8 := Lib.hid (show ∀ k, w.heap.size + 2 ≤ k → k < W5.heap.size → U8.heap[k]? = W5.heap[k]? from fun k hk hk5 => by rw [hU]; exact (heap_setCell_other W8 ⟨w.heap.size + 1, 7, none⟩ k _ (by show k ≠ w.heap.size + 1; omega)).trans (K8.out k hk hk5))
  have sz8 := Lib.hid (show W5.heap.size ≤ U8.heap.size by rw [hU]; have := sz7.out; have := hA'.size; simp [World.setCell]; omega)
  have UH8 := Lib.hid hU
  clear hU hA'
  have G8 := Lib.hid g8
  have HC := Lib.hid (int_r rb l8 e8 U8 G8.out.rd)
  clear g8
  go_wp2_with fail
  rw [← UH8.out]
  clear c0 c1 c2 c3 c4 c5 c6 c7 c8 c9 c10 fz7
  refine HC.out.mono ?_
  rintro e W9 ⟨ls, l9, e9, rfl, wf8, hr, hA, hk⟩
  clear HC
  have hk2 := hk
  have hA' := hA.ar
  clear hk
  have g := G8.out.call hrb hA' hr
  obtain ⟨⟨c0, c1, c2, c3, c4, c5, c6, c7, c8, c9, c10⟩, fz⟩ := Sp.eleven g.sb
  have fz8 := fz 8
  clear fz hr hA
  have Hk8 := Lib.hid hk2
  have GG := Lib.hid g
  clear g hk2
  have K9 := Lib.hid (show ∀ k, w.heap.size + 2 ≤ k → k < W5.heap.size → W9.heap[k]? = W5.heap[k]? from fun k hk hk5 => (hA'.block k (Nat.lt_of_lt_of_le hk5 sz8.out) (by omega)).trans (KU8.out k hk hk5))
  obtain ⟨U9, hU⟩ : ∃ U, U = W9.setCell ⟨w.heap.size + 1, 8, none⟩ (.int .i64 ls) := ⟨_, rfl⟩
  have g9 : Gs w rb #[.string nm, .string tn, .int .i64 pr, .int .i64 dl, .slice a ds.length c, .int .i64 bs, .int .i64 cp, .int .i64 at', .int .i64 ls, .string ⟨#[]⟩, .int .i64 0] U9 l9 e9 := by rw [hU]; exact GG.out.set hrb 8 _
  have KU9 := Lib.hid (show ∀ k, w.heap.size + 2 ≤ k → k < W5.heap.size → U9.heap[k]? = W5.heap[k]? from fun k hk hk5 => by rw [hU]; exact (heap_setCell_other W9 ⟨w.heap.size + 1, 8, none⟩ k _ (by show k ≠ w.heap.size + 1; omega)).trans (K9.out k hk hk5))
  have sz9 := Lib.hid (show W5.heap.size ≤ U9.heap.size by rw [hU]; have := sz8.out; have := hA'.size; simp [World.setCell]; omega)
  have UH9 := Lib.hid hU
  clear hU hA'
  have G9 := Lib.hid g9
  have HC := Lib.hid (sptext_r rb l9 e9 U9 G9.out.rd)
  clear g9
  go_wp2_with fail
  rw [← UH9.out]
  clear c0 c1 c2 c3 c4 c5 c6 c7 c8 c9 c10 fz8
  refine HC.out.mono ?_
  rintro e W10 ⟨cr, l10, e10, rfl, hr, hA, hk, -⟩
  clear HC
  have hk2 := hk
  have hA' := hA.ar
  clear hk
  have g := G9.out.call hrb hA' hr
  obtain ⟨⟨c0, c1, c2, c3, c4, c5, c6, c7, c8, c9, c10⟩, fz⟩ := Sp.eleven g.sb
  have fz9 := fz 9
  clear fz hr hA
  have Hk9 := Lib.hid hk2
  have GG := Lib.hid g
  clear g hk2
  have K10 := Lib.hid (show ∀ k, w.heap.size + 2 ≤ k → k < W5.heap.size → W10.heap[k]? = W5.heap[k]? from fun k hk hk5 => (hA'.block k (Nat.lt_of_lt_of_le hk5 sz9.out) (by omega)).trans (KU9.out k hk hk5))
  obtain ⟨U10, hU⟩ : ∃ U, U = W10.setCell ⟨w.heap.size + 1, 9, none⟩ (.string cr) := ⟨_, rfl⟩
  have g10 : Gs w rb #[.string nm, .string tn, .int .i64 pr, .int .i64 dl, .slice a ds.length c, .int .i64 bs, .int .i64 cp, .int .i64 at', .int .i64 ls, .string cr, .int .i64 0] U10 l10 e10 := by rw [hU]; exact GG.out.set hrb 9 _
  have KU10 := Lib.hid (show ∀ k, w.heap.size + 2 ≤ k → k < W5.heap.size → U10.heap[k]? = W5.heap[k]? from fun k hk hk5 => by rw [hU]; exact (heap_setCell_other W10 ⟨w.heap.size + 1, 9, none⟩ k _ (by show k ≠ w.heap.size + 1; omega)).trans (K10.out k hk hk5))
  have sz10 := Lib.hid (show W5.heap.size ≤ U10.heap.size by rw [hU]; have := sz9.out; have := hA'.size; simp [World.setCell]; omega)
  have UH10 := Lib.hid hU
  clear hU hA'
  have G10 := Lib.hid g10
  have HC := Lib.hid (int_r rb l10 e10 U10 G10.out.rd)
  clear g10
  go_wp2_with fail
  rw [← UH10.out]
  clear c0 c1 c2 c3 c4 c5 c6 c7 c8 c9 c10 fz9
  refine HC.out.mono ?_
  rintro e W11 ⟨ct, l11, e11, rfl, wf10, hr, hA, hk⟩
  clear HC
  have hk2 := hk
  have hA' := hA.ar
  clear hk
  have g := G10.out.call hrb hA' hr
  obtain ⟨⟨c0, c1, c2, c3, c4, c5, c6, c7, c8, c9, c10⟩, fz⟩ := Sp.eleven g.sb
  have fz10 := fz 10
  clear fz hr hA
  have Hk10 := Lib.hid hk2
  have GG := Lib.hid g
  clear g hk2
  have K11 := Lib.hid (show ∀ k, w.heap.size + 2 ≤ k → k < W5.heap.size → W11.heap[k]? = W5.heap[k]? from fun k hk hk5 => (hA'.block k (Nat.lt_of_lt_of_le hk5 sz10.out) (by omega)).trans (KU10.out k hk hk5))
  obtain ⟨U11, hU⟩ : ∃ U, U = W11.setCell ⟨w.heap.size + 1, 10, none⟩ (.int .i64 ct) := ⟨_, rfl⟩
  have g11 : Gs w rb #[.string nm, .string tn, .int .i64 pr, .int .i64 dl, .slice a ds.length c, .int .i64 bs, .int .i64 cp, .int .i64 at', .int .i64 ls, .string cr, .int .i64 ct] U11 l11 e11 := by rw [hU]; exact GG.out.set hrb 10 _
  have KU11 := Lib.hid (show ∀ k, w.heap.size + 2 ≤ k → k < W5.heap.size → U11.heap[k]? = W5.heap[k]? from fun k hk hk5 => by rw [hU]; exact (heap_setCell_other W11 ⟨w.heap.size + 1, 10, none⟩ k _ (by show k ≠ w.heap.size + 1; omega)).trans (K11.out k hk hk5))
  have sz11 := Lib.hid (show W5.heap.size ≤ U11.heap.size by rw [hU]; have := sz10.out; have := hA'.size; simp [World.setCell]; omega)
  have UH11 := Lib.hid hU
  clear hU hA'
  have HE := Lib.hid (err_any rb l11 e11 U11 g11.rd)
  have G11 := Lib.hid g11
  clear g11
  go_wp2_with fail
  rw [← UH11.out]
  clear c0 c1 c2 c3 c4 c5 c6 c7 c8 c9 c10 fz10
  refine HE.out.mono ?_
  rintro e W12 ⟨rfl, rfl⟩
  clear HE
  obtain ⟨⟨z0, z1, z2, z3, z4, z5, z6, z7, z8, z9, z10⟩, zf⟩ := Sp.eleven G11.out.rs
  have zf0 := zf 0
  have zf1 := zf 1
  have zf2 := zf 2
  have zf3 := zf 3
  have zf4 := zf 4
  have zf5 := zf 5
  have zf6 := zf 6
  have zf7 := zf 7
  have zf8 := zf 8
  have zf9 := zf 9
  have zf10 := zf 10
  clear zf
  by_cases he : e11 = 0
  · subst he
    obtain ⟨⟨c0, c1, c2, c3, c4, c5, c6, c7, c8, c9, c10⟩, _⟩ := Sp.eleven G11.out.sb
    go_wp2_with fail
    clear z0 z1 z2 z3 z4 z5 z6 z7 z8 z9 z10 zf0 zf1 zf2 zf3 zf4 zf5 zf6 zf7 zf8 zf9 zf10 c0 c1 c2 c3 c4 c5 c6 c7 c8 c9 c10
    obtain ⟨X, hX⟩ : ∃ X, X = setAll w.heap.size 0 U11 [.string nm, .string tn, .int .i64 pr, .int .i64 dl, .slice a ds.length c, .int .i64 bs, .int .i64 cp, .int .i64 at', .int .i64 ls, .string cr, .int .i64 ct] := ⟨_, rfl⟩
    have hX' := hX
    simp only [setAll, Nat.reduceAdd] at hX'
    rw [← hX']
    clear hX'
    obtain ⟨x1, x2, x3, x4⟩ := G11.out.fin hrb [.string nm, .string tn, .int .i64 pr, .int .i64 dl, .slice a ds.length c, .int .i64 bs, .int .i64 cp, .int .i64 at', .int .i64 ls, .string cr, .int .i64 ct] rfl
    rw [← hX] at x1 x2 x3 x4
    clear hX
    obtain ⟨⟨c0, c1, c2, c3, c4, c5, c6, c7, c8, c9, c10⟩, _⟩ := Sp.eleven x1
    refine bodyPost_ret (v := .agg #[.string nm, .string tn, .int .i64 pr, .int .i64 dl, .slice a ds.length c, .int .i64 bs, .int .i64 cp, .int .i64 at', .int .i64 ls, .string cr, .int .i64 ct]) ?_ rfl ?_
    · rw [results_c1 rfl]
      go_simp
    · refine ⟨⟨nm, tn, pr, dl, a, ds.length, c, ds, bs, cp, at', ls, cr, ct⟩, l11, 0, rfl, ⟨wf2, wf3, wf5, wf6, wf7, wf8, wf10⟩, ?_, x2, x3, fun _ => ?_, fun h => absurd rfl h, HD.out.2.2, ?_⟩
      · refine ⟨rfl, HD.out.1.2.1, ?_⟩
        rcases HD.out.2.1 with h0 | ⟨g, cur, rfl, hg, hcur, _⟩
        · exact .inl h0
        · have hgl := lt_of_block hcur
          have h2 := hU4.out
          have e1 : X.heap[g]? = W5.heap[g]? := (x4 g (by omega)).trans (KU11.out g (by omega) hgl)
          rcases HD.out.1.2.2 with h0 | ⟨b, o, h1, h3⟩
          · exact .inl h0
          · obtain ⟨rfl, rfl⟩ : g = b ∧ 0 = o := by simpa using h1
            exact .inr ⟨g, 0, rfl, fun i hi => (World.cell?_of_block (w := W5) (a := ⟨g, 0 + i, none⟩) e1).trans (h3 i hi)⟩
      · obtain ⟨q10, t10⟩ := Hk10.out (by first | rfl | trivial)
        obtain ⟨q9, t9⟩ := Hk9.out q10
        obtain ⟨q8, t8⟩ := Hk8.out q9
        obtain ⟨q7, t7⟩ := Hk7.out q8
        obtain ⟨q6, t6⟩ := Hk6.out q7
        obtain ⟨q5, t5⟩ := Hk5.out q6
        obtain ⟨q4, t4⟩ := Hk4.out q5
        obtain ⟨q3, t3⟩ := Hk3.out q4
        obtain ⟨q2, t2⟩ := Hk2.out q3
        obtain ⟨q1, t1⟩ := Hk1.out q2
        obtain ⟨q0, t0⟩ := Hk0.out q1
        refine ⟨q0, ?_⟩
        rw [t0, t1, t2, t3, t4, t5, t6, t7, t8, t9, t10]
        unfold Sp.specB Sp.headB Sp.tailB Sp.rowB
        simp only [List.append_assoc]
      · rcases HD.out.2.1 with h0 | ⟨g, cur, e, hg, hcur, _⟩
        · exact .inl h0
        · have h2 := hU4.out
          exact .inr ⟨g, cur, e, by omega, ((x4 g (by omega)).trans (KU11.out g (by omega) (lt_of_block hcur))).trans hcur⟩
  · have hne : (e11 != 0) = true := by simpa using he
    go_wp2_with fail
    clear z0 z1 z2 z3 z4 z5 z6 z7 z8 z9 z10 zf0 zf1 zf2 zf3 zf4 zf5 zf6 zf7 zf8 zf9 zf10
    obtain ⟨X, hX⟩ : ∃ X, X = setAll w.heap.size 0 U11 [.string ⟨#[]⟩, .string ⟨#[]⟩, .int .i64 0, .int .i64 0, .slice none 0 0, .int .i64 0, .int .i64 0, .int .i64 0, .int .i64 0, .string ⟨#[]⟩, .int .i64 0] := ⟨_, rfl⟩
    have hX' := hX
    simp only [setAll, Nat.reduceAdd] at hX'
    rw [← hX']
    clear hX'
    obtain ⟨x1, x2, x3, x4⟩ := G11.out.fin hrb [.string ⟨#[]⟩, .string ⟨#[]⟩, .int .i64 0, .int .i64 0, .slice none 0 0, .int .i64 0, .int .i64 0, .int .i64 0, .int .i64 0, .string ⟨#[]⟩, .int .i64 0] rfl
    rw [← hX] at x1 x2 x3 x4
    clear hX
    obtain ⟨⟨c0, c1, c2, c3, c4, c5, c6, c7, c8, c9, c10⟩, _⟩ := Sp.eleven x1
    refine bodyPost_ret (v := .agg #[.string ⟨#[]⟩, .string ⟨#[]⟩, .int .i64 0, .int .i64 0, .slice none 0 0, .int .i64 0, .int .i64 0, .int .i64 0, .int .i64 0, .string ⟨#[]⟩, .int .i64 0]) ?_ rfl ?_
    · rw [results_c1 rfl]
      go_simp
    · exact ⟨zsp, l11, e11, rfl, by unfold zsp Sp.Spc.wf Sp.W64; decide, ⟨rfl, fun _ => rfl, .inl rfl⟩, x2, x3, fun h => absurd h he, fun _ => rfl, by decide, .inl rfl⟩
/-- in the midst of GetJob: the result's block, the job's block, the reader -/
structure Gj (w : World) (rb : Nat) (cs : Array Value) (W : World) (l : List UInt8) (e : Int) : Prop where
  rs : W.heap[w.heap.size]? = some (.cells jobZ.toArray 42 (0, 0))
  sb : W.heap[w.heap.size + 1]? = some (.cells cs 42 (0, 0))
  rd : Rd W rb l e
  ar : Ar rb w W
theorem Gj.call {w : World} {rb : Nat} {cs : Array Value} {W W' : World} {l l' : List UInt8} {e e' : Int} (h : Gj w rb cs W l e) (hrb : rb < w.heap.size) (hA : Ar rb W W') (hr : Rd W' rb l' e') : Gj w rb cs W' l' e' :=
  ⟨(hA.block _ (lt_of_block h.rs) (by omega)).trans h.rs, (hA.block _ (lt_of_block h.sb) (by omega)).trans h.sb, hr, h.ar.trans hA⟩
theorem Gj.sets {w : World} {rb : Nat} {cs : Array Value} {W : World} {l : List UInt8} {e : Int} (h : Gj w rb cs W l e) (hrb : rb < w.heap.size) (i : Nat) (vs : List Value) (hl : i + vs.length ≤ cs.size) :
    Gj w rb (cs.toList.take i ++ vs ++ cs.toList.drop (i + vs.length)).toArray (setAll (w.heap.size + 1) i W vs) l e ∧ ∀ k, k ≠ w.heap.size + 1 → (setAll (w.heap.size + 1) i W vs).heap[k]? = W.heap[k]? := by
  obtain ⟨h1, h2, h3, h4, h5⟩ := setAll_other (b := w.heap.size + 1) vs i W
  refine ⟨⟨(h1 _ (by omega)).trans h.rs, setAll_part vs i W cs h.sb hl, h.rd.kept (h1 rb (by omega)) (fun g cur hg => h1 g ?_), ⟨h3.trans h.ar.os, h4.trans h.ar.tape, h5.trans h.ar.output, by rw [h2]; exact h.ar.size, fun k hk hn => (h1 k (by omega)).trans (h.ar.block k hk hn)⟩⟩, h1⟩
  rintro rfl
  rw [h.sb] at hg
  simp at hg
theorem Gj.set {w : World} {rb : Nat} {cs : Array Value} {W : World} {l : List UInt8} {e : Int} (h : Gj w rb cs W l e) (hrb : rb < w.heap.size) (i : Nat) (v : Value) : Gj w rb (cs.setIfInBounds i v) (W.setCell ⟨w.heap.size + 1, i, none⟩ v) l e := by
  have ho : ∀ k, k ≠ w.heap.size + 1 → (W.setCell ⟨w.heap.size + 1, i, none⟩ v).heap[k]? = W.heap[k]? := fun k hk => heap_setCell_other W ⟨w.heap.size + 1, i, none⟩ k v hk
  refine ⟨(ho _ (by omega)).trans h.rs, heap_setCell_same _ _ i _ _ v h.sb, h.rd.kept (ho _ (by omega)) (fun g cur hg => ho g ?_), ?_⟩
  · rintro rfl
    rw [h.sb] at hg
    simp at hg
  · refine ⟨h.ar.os, h.ar.tape, h.ar.output, by have := h.ar.size; simp [World.setCell]; omega, fun k hk hn => ?_⟩
    rw [ho k (by omega)]
    exact h.ar.block k hk hn
theorem Gj.fin {w : World} {rb : Nat} {cs : Array Value} {U : World} {l : List UInt8} {e : Int} (h : Gj w rb cs U l e) (hrb : rb < w.heap.size) (vs : List Value) (hl : vs.length = 21) :
    (setAll w.heap.size 0 U vs).heap[w.heap.size]? = some (.cells vs.toArray 42 (0, 0)) ∧ Rd (setAll w.heap.size 0 U vs) rb l e ∧ Ar rb w (setAll w.heap.size 0 U vs) ∧ ∀ k, k ≠ w.heap.size → (setAll w.heap.size 0 U vs).heap[k]? = U.heap[k]? := by
  obtain ⟨h1, h2, h3, h4, h5⟩ := setAll_other (b := w.heap.size) vs 0 U
  refine ⟨setAll_all h.rs (by rw [hl]; rfl), h.rd.kept (h1 rb (by omega)) (fun g cur hg => h1 g ?_), ⟨h3.trans h.ar.os, h4.trans h.ar.tape, h5.trans h.ar.output, by rw [h2]; exact h.ar.size, fun k hk hn => (h1 k (by omega)).trans (h.ar.block k hk hn)⟩, h1⟩
  rintro rfl
  rw [h.rs] at hg
  simp at hg
theorem sptext_s (rb : Nat) (l : List UInt8) (er : Int) (w : World) (h : Rd w rb l er) :
    Calls Tryz.prog 37 #[.pointer (some ⟨rb, 0, none⟩)] w fun e w' => ∃ (s : ByteArray) (l' : List UInt8) (er' : Int), e = .returned (.string s) ∧ s.size ≤ 255 ∧ Rd w' rb l' er' ∧ At rb w w' ∧ (er' = 0 → er = 0 ∧ l = textB s ++ l') := by
  have H := Lib.hid (text_r rb l er 255 w h (by decide))
  clear h
  go_enter Tryz.func37, Tryz.ntmps37
  go_wp2_with fail
  refine H.out.mono ?_
  rintro e w' ⟨s, l', er', rfl, hx, hr, hA, hb⟩
  have HH := Lib.hid (And.intro hx (And.intro hr (And.intro hA hb)))
  clear hx hr hA hb
  go_wp2_with fail
  go_ret
  exact ⟨s, l', er', rfl, HH.out⟩
/-- a job that is none -/
def zjob : Jb := ⟨zsp, 0, 0, 0, 0, 0, ⟨#[]⟩, 0, 0, 0, 0⟩
/-- what GetJob answers -/
def GotJ (rb : Nat) (l : List UInt8) (er : Int) (w : World) (e : Ending) (w' : World) : Prop :=
  ∃ (x : Jb) (l' : List UInt8) (er' : Int), e = .returned (.agg x.cs.toArray) ∧ x.wf ∧ Jd w' x ∧ Rd w' rb l' er' ∧ Ar rb w w' ∧ (er' = 0 → er = 0 ∧ l = jobB x ++ l') ∧ (er' ≠ 0 → x = zjob) ∧ x.sp.n ≤ 255 ∧ x.wk.size ≤ 255 ∧ Own1 w' w.heap.size x
set_option maxHeartbeats 4000000 in
theorem getJob_any (rb : Nat) (l0 : List UInt8) (e0 : Int) (w : World) (h : Rd w rb l0 e0) :
    Calls Tryz.prog 12 #[.pointer (some ⟨rb, 0, none⟩)] w (GotJ rb l0 e0 w) := by
  have hrb := h.lt
  obtain ⟨U0, hV⟩ : ∃ V, V = (w.alloc (.cells jobZ.toArray 42)).alloc (.cells jobZ.toArray 42) := ⟨_, rfl⟩
  have hb : Below w.heap.size w U0 := by rw [hV]; exact ((Below.refl _ _).alloc (Nat.le_refl _) _).alloc (by simp) _
  have g0 : Gj w rb jobZ.toArray U0 l0 e0 := by
    refine ⟨?_, ?_, h.below hb, Ar.ofBelow hb⟩
    · rw [hV]; exact ((Below.refl (w.heap.size + 1) _).alloc (by simp) _ |>.block _ (by omega)).trans (heap_alloc_new w _)
    · rw [hV]
      have := heap_alloc_new (w.alloc (.cells jobZ.toArray 42)) (.cells jobZ.toArray 42)
      rwa [World.size_alloc] at this
  unfold jobZ at hV
  clear hb h
  go_enter Tryz.func12, Tryz.ntmps12
  have G0 := Lib.hid g0
  have HC := Lib.hid (spGetT rb l0 e0 U0 G0.out.rd)
  clear g0
  go_wp2_with fail
  rw [← hV]
  have HV := Lib.hid hV
  clear hV
  refine HC.out.mono ?_
  rintro e Z0 ⟨xs, l1, e1, rfl, hwx, hdx, hr, hA, hk, hzx, hnx, hgx⟩
  clear HC
  have gz := G0.out.call hrb hA hr
  have Hk0 := Lib.hid hk
  have hthr : Z0.there (w.heap.size + 1) 0 xs.cells.size := there_of gz.sb (by show 11 ≤ 21; omega)
  have hinf : (Tryz.prog.info? 40).map (·.size) = some xs.cells.size := info_spec21
  have hone : xs.cells.all (·.oneCell') = true := by unfold Sp.Spc.cells; rw [List.all_toArray]; rfl
  have GZ := Lib.hid gz
  have HX := Lib.hid (And.intro hwx (And.intro hdx (And.intro hnx (And.intro hgx hA))))
  clear hwx hdx hnx hzx hgx hA hr hk gz
  go_upto_region 3 with (refine wpList_store_mid rfl 40 _ _ rfl (w.heap.size + 1) 0 xs.cells rfl rfl hthr hinf hone ?_)
  rw [setCells_all]
  clear hthr hinf hone
  obtain ⟨U1, hU⟩ : ∃ U, U = setAll (w.heap.size + 1) 0 Z0 xs.cells.toList := ⟨_, rfl⟩
  rw [← hU]
  obtain ⟨g, go⟩ := GZ.out.sets hrb 0 xs.cells.toList (by show 0 + 11 ≤ 21; omega)
  rw [← hU] at g go
  have KU1 := Lib.hid (show ∀ k, w.heap.size + 2 ≤ k → k < Z0.heap.size → U1.heap[k]? = Z0.heap[k]? from fun k hk _ => go k (by omega))
  have sz1 := Lib.hid (show Z0.heap.size ≤ U1.heap.size by rw [hU]; rw [(setAll_other (b := w.heap.size + 1) xs.cells.toList 0 Z0).2.1]; exact Nat.le_refl _)
  have hZ0 := Lib.hid (show w.heap.size + 2 ≤ Z0.heap.size from lt_of_block GZ.out.sb)
  have hU0s := Lib.hid (show w.heap.size + 2 ≤ U0.heap.size from lt_of_block G0.out.sb)
  have g1 : Gj w rb #[.string xs.nm, .string xs.tn, .int .i64 xs.pr, .int .i64 xs.dl, .slice xs.a xs.n xs.c, .int .i64 xs.bs, .int .i64 xs.cp, .int .i64 xs.at', .int .i64 xs.ls, .string xs.cr, .int .i64 xs.ct, .int .i64 0, .int .i64 0, .int .u64 0, .int .i64 0, .int .i64 0, .string ⟨#[]⟩, .int .u64 0, .int .i64 0, .int .i64 0, .int .i64 0] U1 l1 e1 := g
  clear g go hU
  have G1 := Lib.hid g1
  have HC := Lib.hid (int_r rb l1 e1 U1 G1.out.rd)
  clear g1
  go_wp2_with fail
  refine HC.out.mono ?_
  rintro e W2 ⟨xst, l2, e2, rfl, wf1, hr, hA, hk⟩
  clear HC
  have hA' := hA.ar
  have g := G1.out.call hrb hA' hr
  obtain ⟨cz1, fz1⟩ := cellj g.sb (i := 11) rfl
  have WF1 := Lib.hid wf1
  clear wf1
  have Hk1 := Lib.hid hk
  have GG := Lib.hid g
  have K1 := Lib.hid (show ∀ k, w.heap.size + 2 ≤ k → k < Z0.heap.size → W2.heap[k]? = Z0.heap[k]? from fun k hk hk5 => (hA'.block k (Nat.lt_of_lt_of_le hk5 sz1.out) (by omega)).trans (KU1.out k hk hk5))
  clear g hk hr hA
  obtain ⟨U2, hU⟩ : ∃ U, U = W2.setCell ⟨w.heap.size + 1, 11, none⟩ (.int .i64 xst) := ⟨_, rfl⟩
  have g2 : Gj w rb #[.string xs.nm, .string xs.tn, .int .i64 xs.pr, .int .i64 xs.dl, .slice xs.a xs.n xs.c, .int .i64 xs.bs, .int .i64 xs.cp, .int .i64 xs.at', .int .i64 xs.ls, .string xs.cr, .int .i64 xs.ct, .int .i64 xst, .int .i64 0, .int .u64 0, .int .i64 0, .int .i64 0, .string ⟨#[]⟩, .int .u64 0, .int .i64 0, .int .i64 0, .int .i64 0] U2 l2 e2 := by rw [hU]; exact GG.out.set hrb 11 _
  have KU2 := Lib.hid (show ∀ k, w.heap.size + 2 ≤ k → k < Z0.heap.size → U2.heap[k]? = Z0.heap[k]? from fun k hk hk5 => by rw [hU]; exact (heap_setCell_other W2 ⟨w.heap.size + 1, 11, none⟩ k _ (by show k ≠ w.heap.size + 1; omega)).trans (K1.out k hk hk5))
  have sz2 := Lib.hid (show Z0.heap.size ≤ U2.heap.size by rw [hU]; have := sz1.out; have := hA'.size; simp [World.setCell]; omega)
  have UH2 := Lib.hid hU
  clear hU hA' GG
  have G2 := Lib.hid g2
  have HC := Lib.hid (int_r rb l2 e2 U2 G2.out.rd)
  clear g2
  go_wp2_with fail
  rw [← UH2.out]
  clear cz1 fz1
  refine HC.out.mono ?_
  rintro e W3 ⟨xdu, l3, e3, rfl, wf2, hr, hA, hk⟩
  clear HC
  have hA' := hA.ar
  have g := G2.out.call hrb hA' hr
  obtain ⟨cz2, fz2⟩ := cellj g.sb (i := 12) rfl
  have WF2 := Lib.hid wf2
  clear wf2
  have Hk2 := Lib.hid hk
  have GG := Lib.hid g
  have K2 := Lib.hid (show ∀ k, w.heap.size + 2 ≤ k → k < Z0.heap.size → W3.heap[k]? = Z0.heap[k]? from fun k hk hk5 => (hA'.block k (Nat.lt_of_lt_of_le hk5 sz2.out) (by omega)).trans (KU2.out k hk hk5))
  clear g hk hr hA
  obtain ⟨U3, hU⟩ : ∃ U, U = W3.setCell ⟨w.heap.size + 1, 12, none⟩ (.int .i64 xdu) := ⟨_, rfl⟩
  have g3 : Gj w rb #[.string xs.nm, .string xs.tn, .int .i64 xs.pr, .int .i64 xs.dl, .slice xs.a xs.n xs.c, .int .i64 xs.bs, .int .i64 xs.cp, .int .i64 xs.at', .int .i64 xs.ls, .string xs.cr, .int .i64 xs.ct, .int .i64 xst, .int .i64 xdu, .int .u64 0, .int .i64 0, .int .i64 0, .string ⟨#[]⟩, .int .u64 0, .int .i64 0, .int .i64 0, .int .i64 0] U3 l3 e3 := by rw [hU]; exact GG.out.set hrb 12 _
  have KU3 := Lib.hid (show ∀ k, w.heap.size + 2 ≤ k → k < Z0.heap.size → U3.heap[k]? = Z0.heap[k]? from fun k hk hk5 => by rw [hU]; exact (heap_setCell_other W3 ⟨w.heap.size + 1, 12, none⟩ k _ (by show k ≠ w.heap.size + 1; omega)).trans (K2.out k hk hk5))
  have sz3 := Lib.hid (show Z0.heap.size ≤ U3.heap.size by rw [hU]; have := sz2.out; have := hA'.size; simp [World.setCell]; omega)
  have UH3 := Lib.hid hU
  clear hU hA' GG
  have G3 := Lib.hid g3
  have HC := Lib.hid (num_r rb l3 e3 U3 G3.out.rd)
  clear g3
  go_wp2_with fail
  rw [← UH3.out]
  clear cz2 fz2
  refine HC.out.mono ?_
  rintro e W4 ⟨xtk, l4, e4, rfl, wf3, hr, hA, hk, -⟩
  clear HC
  have hA' := hA.ar
  have g := G3.out.call hrb hA' hr
  obtain ⟨cz3, fz3⟩ := cellj g.sb (i := 13) rfl
  have WF3 := Lib.hid wf3
  clear wf3
  have Hk3 := Lib.hid hk
  have GG := Lib.hid g
  have K3 := Lib.hid (show ∀ k, w.heap.size + 2 ≤ k → k < Z0.heap.size → W4.heap[k]? = Z0.heap[k]? from fun k hk hk5 => (hA'.block k (Nat.lt_of_lt_of_le hk5 sz3.out) (by omega)).trans (KU3.out k hk hk5))
  clear g hk hr hA
  obtain ⟨U4, hU⟩ : ∃ U, U = W4.setCell ⟨w.heap.size + 1, 13, none⟩ (.int .u64 (xtk : Nat)) := ⟨_, rfl⟩
  have g4 : Gj w rb #[.string xs.nm, .string xs.tn, .int .i64 xs.pr, .int .i64 xs.dl, .slice xs.a xs.n xs.c, .int .i64 xs.bs, .int .i64 xs.cp, .int .i64 xs.at', .int .i64 xs.ls, .string xs.cr, .int .i64 xs.ct, .int .i64 xst, .int .i64 xdu, .int .u64 (xtk : Nat), .int .i64 0, .int .i64 0, .string ⟨#[]⟩, .int .u64 0, .int .i64 0, .int .i64 0, .int .i64 0] U4 l4 e4 := by rw [hU]; exact GG.out.set hrb 13 _
  have KU4 := Lib.hid (show ∀ k, w.heap.size + 2 ≤ k → k < Z0.heap.size → U4.heap[k]? = Z0.heap[k]? from fun k hk hk5 => by rw [hU]; exact (heap_setCell_other W4 ⟨w.heap.size + 1, 13, none⟩ k _ (by show k ≠ w.heap.size + 1; omega)).trans (K3.out k hk hk5))
  have sz4 := Lib.hid (show Z0.heap.size ≤ U4.heap.size by rw [hU]; have := sz3.out; have := hA'.size; simp [World.setCell]; omega)
  have UH4 := Lib.hid hU
  clear hU hA' GG
  have G4 := Lib.hid g4
  have HC := Lib.hid (int_r rb l4 e4 U4 G4.out.rd)
  clear g4
  go_wp2_with fail
  rw [← UH4.out]
  clear cz3 fz3
  refine HC.out.mono ?_
  rintro e W5 ⟨xfl, l5, e5, rfl, wf4, hr, hA, hk⟩
  clear HC
  have hA' := hA.ar
  have g := G4.out.call hrb hA' hr
  obtain ⟨cz4, fz4⟩ := cellj g.sb (i := 14) rfl
  have WF4 := Lib.hid wf4
  clear wf4
  have Hk4 := Lib.hid hk
  have GG := Lib.hid g
  have K4 := Lib.hid (show ∀ k, w.heap.size + 2 ≤ k → k < Z0.heap.size → W5.heap[k]? = Z0.heap[k]? from fun k hk hk5 => (hA'.block k (Nat.lt_of_lt_of_le hk5 sz4.out) (by omega)).trans (KU4.out k hk hk5))
  clear g hk hr hA
  obtain ⟨U5, hU⟩ : ∃ U, U = W5.setCell ⟨w.heap.size + 1, 14, none⟩ (.int .i64 xfl) := ⟨_, rfl⟩
  have g5 : Gj w rb #[.string xs.nm, .string xs.tn, .int .i64 xs.pr, .int .i64 xs.dl, .slice xs.a xs.n xs.c, .int .i64 xs.bs, .int .i64 xs.cp, .int .i64 xs.at', .int .i64 xs.ls, .string xs.cr, .int .i64 xs.ct, .int .i64 xst, .int .i64 xdu, .int .u64 (xtk : Nat), .int .i64 xfl, .int .i64 0, .string ⟨#[]⟩, .int .u64 0, .int .i64 0, .int .i64 0, .int .i64 0] U5 l5 e5 := by rw [hU]; exact GG.out.set hrb 14 _
  have KU5 := Lib.hid (show ∀ k, w.heap.size + 2 ≤ k → k < Z0.heap.size → U5.heap[k]? = Z0.heap[k]? from fun k hk hk5 => by rw [hU]; exact (heap_setCell_other W5 ⟨w.heap.size + 1, 14, none⟩ k _ (by show k ≠ w.heap.size + 1; omega)).trans (K4.out k hk hk5))
  have sz5 := Lib.hid (show Z0.heap.size ≤ U5.heap.size by rw [hU]; have := sz4.out; have := hA'.size; simp [World.setCell]; omega)
  have UH5 := Lib.hid hU
  clear hU hA' GG
  have G5 := Lib.hid g5
  have HC := Lib.hid (int_r rb l5 e5 U5 G5.out.rd)
  clear g5
  go_wp2_with fail
  rw [← UH5.out]
  clear cz4 fz4
  refine HC.out.mono ?_
  rintro e W6 ⟨xrs, l6, e6, rfl, wf5, hr, hA, hk⟩
  clear HC
  have hA' := hA.ar
  have g := G5.out.call hrb hA' hr
  obtain ⟨cz5, fz5⟩ := cellj g.sb (i := 15) rfl
  have WF5 := Lib.hid wf5
  clear wf5
  have Hk5 := Lib.hid hk
  have GG := Lib.hid g
  have K5 := Lib.hid (show ∀ k, w.heap.size + 2 ≤ k → k < Z0.heap.size → W6.heap[k]? = Z0.heap[k]? from fun k hk hk5 => (hA'.block k (Nat.lt_of_lt_of_le hk5 sz5.out) (by omega)).trans (KU5.out k hk hk5))
  clear g hk hr hA
  obtain ⟨U6, hU⟩ : ∃ U, U = W6.setCell ⟨w.heap.size + 1, 15, none⟩ (.int .i64 xrs) := ⟨_, rfl⟩
  have g6 : Gj w rb #[.string xs.nm, .string xs.tn, .int .i64 xs.pr, .int .i64 xs.dl, .slice xs.a xs.n xs.c, .int .i64 xs.bs, .int .i64 xs.cp, .int .i64 xs.at', .int .i64 xs.ls, .string xs.cr, .int .i64 xs.ct, .int .i64 xst, .int .i64 xdu, .int .u64 (xtk : Nat), .int .i64 xfl, .int .i64 xrs, .string ⟨#[]⟩, .int .u64 0, .int .i64 0, .int .i64 0, .int .i64 0] U6 l6 e6 := by rw [hU]; exact GG.out.set hrb 15 _
  have KU6 := Lib.hid (show ∀ k, w.heap.size + 2 ≤ k → k < Z0.heap.size → U6.heap[k]? = Z0.heap[k]? from fun k hk hk5 => by rw [hU]; exact (heap_setCell_other W6 ⟨w.heap.size + 1, 15, none⟩ k _ (by show k ≠ w.heap.size + 1; omega)).trans (K5.out k hk hk5))
  have sz6 := Lib.hid (show Z0.heap.size ≤ U6.heap.size by rw [hU]; have := sz5.out; have := hA'.size; simp [World.setCell]; omega)
  have UH6 := Lib.hid hU
  clear hU hA' GG
  have G6 := Lib.hid g6
  have HC := Lib.hid (sptext_s rb l6 e6 U6 G6.out.rd)
  clear g6
  go_wp2_with fail
  rw [← UH6.out]
  clear cz5 fz5
  refine HC.out.mono ?_
  rintro e W7 ⟨xwk, l7, e7, rfl, wf6, hr, hA, hk⟩
  clear HC
  have hA' := hA.ar
  have g := G6.out.call hrb hA' hr
  obtain ⟨cz6, fz6⟩ := cellj g.sb (i := 16) rfl
  have WF6 := Lib.hid wf6
  clear wf6
  have Hk6 := Lib.hid hk
  have GG := Lib.hid g
  have K6 := Lib.hid (show ∀ k, w.heap.size + 2 ≤ k → k < Z0.heap.size → W7.heap[k]? = Z0.heap[k]? from fun k hk hk5 => (hA'.block k (Nat.lt_of_lt_of_le hk5 sz6.out) (by omega)).trans (KU6.out k hk hk5))
  clear g hk hr hA
  obtain ⟨U7, hU⟩ : ∃ U, U = W7.setCell ⟨w.heap.size + 1, 16, none⟩ (.string xwk) := ⟨_, rfl⟩
  have g7 : Gj w rb #[.string xs.nm, .string xs.tn, .int .i64 xs.pr, .int .i64 xs.dl, .slice xs.a xs.n xs.c, .int .i64 xs.bs, .int .i64 xs.cp, .int .i64 xs.at', .int .i64 xs.ls, .string xs.cr, .int .i64 xs.ct, .int .i64 xst, .int .i64 xdu, .int .u64 (xtk : Nat), .int .i64 xfl, .int .i64 xrs, .string xwk, .int .u64 0, .int .i64 0, .int .i64 0, .int .i64 0] U7 l7 e7 := by rw [hU]; exact GG.out.set hrb 16 _
  have KU7 := Lib.hid (show ∀ k, w.heap.size + 2 ≤ k → k < Z0.heap.size → U7.heap[k]? = Z0.heap[k]? from fun k hk hk5 => by rw [hU]; exact (heap_setCell_other W7 ⟨w.heap.size + 1, 16, none⟩ k _ (by show k ≠ w.heap.size + 1; omega)).trans (K6.out k hk hk5))
  have sz7 := Lib.hid (show Z0.heap.size ≤ U7.heap.size by rw [hU]; have := sz6.out; have := hA'.size; simp [World.setCell]; omega)
  have UH7 := Lib.hid hU
  clear hU hA' GG
  have G7 := Lib.hid g7
  have HC := Lib.hid (num_r rb l7 e7 U7 G7.out.rd)
  clear g7
  go_wp2_with fail
  rw [← UH7.out]
  clear cz6 fz6
  refine HC.out.mono ?_
  rintro e W8 ⟨xod, l8, e8, rfl, wf7, hr, hA, hk, -⟩
  clear HC
  have hA' := hA.ar
  have g := G7.out.call hrb hA' hr
  obtain ⟨cz7, fz7⟩ := cellj g.sb (i := 17) rfl
  have WF7 := Lib.hid wf7
  clear wf7
  have Hk7 := Lib.hid hk
  have GG := Lib.hid g
  have K7 := Lib.hid (show ∀ k, w.heap.size + 2 ≤ k → k < Z0.heap.size → W8.heap[k]? = Z0.heap[k]? from fun k hk hk5 => (hA'.block k (Nat.lt_of_lt_of_le hk5 sz7.out) (by omega)).trans (KU7.out k hk hk5))
  clear g hk hr hA
  obtain ⟨U8, hU⟩ : ∃ U, U = W8.setCell ⟨w.heap.size + 1, 17, none⟩ (.int .u64 (xod : Nat)) := ⟨_, rfl⟩
  have g8 : Gj w rb #[.string xs.nm, .string xs.tn, .int .i64 xs.pr, .int .i64 xs.dl, .slice xs.a xs.n xs.c, .int .i64 xs.bs, .int .i64 xs.cp, .int .i64 xs.at', .int .i64 xs.ls, .string xs.cr, .int .i64 xs.ct, .int .i64 xst, .int .i64 xdu, .int .u64 (xtk : Nat), .int .i64 xfl, .int .i64 xrs, .string xwk, .int .u64 (xod : Nat), .int .i64 0, .int .i64 0, .int .i64 0] U8 l8 e8 := by rw [hU]; exact GG.out.set hrb 17 _
  have KU8 := Lib.hid (show ∀ k, w.heap.size + 2 ≤ k → k < Z0.heap.size → U8.heap[k]? = Z0.heap[k]? from fun k hk hk5 => by rw [hU]; exact (heap_setCell_other W8 ⟨w.heap.size + 1, 17, none⟩ k _ (by show k ≠ w.heap.size + 1; omega)).trans (K7.out k hk hk5))
  have sz8 := Lib.hid (show Z0.heap.size ≤ U8.heap.size by rw [hU]; have := sz7.out; have := hA'.size; simp [World.setCell]; omega)
  have UH8 := Lib.hid hU
  clear hU hA' GG
  have G8 := Lib.hid g8
  have HC := Lib.hid (int_r rb l8 e8 U8 G8.out.rd)
  clear g8
  go_wp2_with fail
  rw [← UH8.out]
  clear cz7 fz7
  refine HC.out.mono ?_
  rintro e W9 ⟨xcr, l9, e9, rfl, wf8, hr, hA, hk⟩
  clear HC
  have hA' := hA.ar
  have g := G8.out.call hrb hA' hr
  obtain ⟨cz8, fz8⟩ := cellj g.sb (i := 18) rfl
  have WF8 := Lib.hid wf8
  clear wf8
  have Hk8 := Lib.hid hk
  have GG := Lib.hid g
  have K8 := Lib.hid (show ∀ k, w.heap.size + 2 ≤ k → k < Z0.heap.size → W9.heap[k]? = Z0.heap[k]? from fun k hk hk5 => (hA'.block k (Nat.lt_of_lt_of_le hk5 sz8.out) (by omega)).trans (KU8.out k hk hk5))
  clear g hk hr hA
  obtain ⟨U9, hU⟩ : ∃ U, U = W9.setCell ⟨w.heap.size + 1, 18, none⟩ (.int .i64 xcr) := ⟨_, rfl⟩
  have g9 : Gj w rb #[.string xs.nm, .string xs.tn, .int .i64 xs.pr, .int .i64 xs.dl, .slice xs.a xs.n xs.c, .int .i64 xs.bs, .int .i64 xs.cp, .int .i64 xs.at', .int .i64 xs.ls, .string xs.cr, .int .i64 xs.ct, .int .i64 xst, .int .i64 xdu, .int .u64 (xtk : Nat), .int .i64 xfl, .int .i64 xrs, .string xwk, .int .u64 (xod : Nat), .int .i64 xcr, .int .i64 0, .int .i64 0] U9 l9 e9 := by rw [hU]; exact GG.out.set hrb 18 _
  have KU9 := Lib.hid (show ∀ k, w.heap.size + 2 ≤ k → k < Z0.heap.size → U9.heap[k]? = Z0.heap[k]? from fun k hk hk5 => by rw [hU]; exact (heap_setCell_other W9 ⟨w.heap.size + 1, 18, none⟩ k _ (by show k ≠ w.heap.size + 1; omega)).trans (K8.out k hk hk5))
  have sz9 := Lib.hid (show Z0.heap.size ≤ U9.heap.size by rw [hU]; have := sz8.out; have := hA'.size; simp [World.setCell]; omega)
  have UH9 := Lib.hid hU
  clear hU hA' GG
  have G9 := Lib.hid g9
  have HC := Lib.hid (int_r rb l9 e9 U9 G9.out.rd)
  clear g9
  go_wp2_with fail
  rw [← UH9.out]
  clear cz8 fz8
  refine HC.out.mono ?_
  rintro e W10 ⟨xrn, l10, e10, rfl, wf9, hr, hA, hk⟩
  clear HC
  have hA' := hA.ar
  have g := G9.out.call hrb hA' hr
  obtain ⟨cz9, fz9⟩ := cellj g.sb (i := 19) rfl
  have WF9 := Lib.hid wf9
  clear wf9
  have Hk9 := Lib.hid hk
  have GG := Lib.hid g
  have K9 := Lib.hid (show ∀ k, w.heap.size + 2 ≤ k → k < Z0.heap.size → W10.heap[k]? = Z0.heap[k]? from fun k hk hk5 => (hA'.block k (Nat.lt_of_lt_of_le hk5 sz9.out) (by omega)).trans (KU9.out k hk hk5))
  clear g hk hr hA
  obtain ⟨U10, hU⟩ : ∃ U, U = W10.setCell ⟨w.heap.size + 1, 19, none⟩ (.int .i64 xrn) := ⟨_, rfl⟩
  have g10 : Gj w rb #[.string xs.nm, .string xs.tn, .int .i64 xs.pr, .int .i64 xs.dl, .slice xs.a xs.n xs.c, .int .i64 xs.bs, .int .i64 xs.cp, .int .i64 xs.at', .int .i64 xs.ls, .string xs.cr, .int .i64 xs.ct, .int .i64 xst, .int .i64 xdu, .int .u64 (xtk : Nat), .int .i64 xfl, .int .i64 xrs, .string xwk, .int .u64 (xod : Nat), .int .i64 xcr, .int .i64 xrn, .int .i64 0] U10 l10 e10 := by rw [hU]; exact GG.out.set hrb 19 _
  have KU10 := Lib.hid (show ∀ k, w.heap.size + 2 ≤ k → k < Z0.heap.size → U10.heap[k]? = Z0.heap[k]? from fun k hk hk5 => by rw [hU]; exact (heap_setCell_other W10 ⟨w.heap.size + 1, 19, none⟩ k _ (by show k ≠ w.heap.size + 1; omega)).trans (K9.out k hk hk5))
  have sz10 := Lib.hid (show Z0.heap.size ≤ U10.heap.size by rw [hU]; have := sz9.out; have := hA'.size; simp [World.setCell]; omega)
  have UH10 := Lib.hid hU
  clear hU hA' GG
  have G10 := Lib.hid g10
  have HC := Lib.hid (int_r rb l10 e10 U10 G10.out.rd)
  clear g10
  go_wp2_with fail
  rw [← UH10.out]
  clear cz9 fz9
  refine HC.out.mono ?_
  rintro e W11 ⟨xms, l11, e11, rfl, wf10, hr, hA, hk⟩
  clear HC
  have hA' := hA.ar
  have g := G10.out.call hrb hA' hr
  obtain ⟨cz10, fz10⟩ := cellj g.sb (i := 20) rfl
  have WF10 := Lib.hid wf10
  clear wf10
  have Hk10 := Lib.hid hk
  have GG := Lib.hid g
  have K10 := Lib.hid (show ∀ k, w.heap.size + 2 ≤ k → k < Z0.heap.size → W11.heap[k]? = Z0.heap[k]? from fun k hk hk5 => (hA'.block k (Nat.lt_of_lt_of_le hk5 sz10.out) (by omega)).trans (KU10.out k hk hk5))
  clear g hk hr hA
  obtain ⟨U11, hU⟩ : ∃ U, U = W11.setCell ⟨w.heap.size + 1, 20, none⟩ (.int .i64 xms) := ⟨_, rfl⟩
  have g11 : Gj w rb #[.string xs.nm, .string xs.tn, .int .i64 xs.pr, .int .i64 xs.dl, .slice xs.a xs.n xs.c, .int .i64 xs.bs, .int .i64 xs.cp, .int .i64 xs.at', .int .i64 xs.ls, .string xs.cr, .int .i64 xs.ct, .int .i64 xst, .int .i64 xdu, .int .u64 (xtk : Nat), .int .i64 xfl, .int .i64 xrs, .string xwk, .int .u64 (xod : Nat), .int .i64 xcr, .int .i64 xrn, .int .i64 xms] U11 l11 e11 := by rw [hU]; exact GG.out.set hrb 20 _
  have KU11 := Lib.hid (show ∀ k, w.heap.size + 2 ≤ k → k < Z0.heap.size → U11.heap[k]? = Z0.heap[k]? from fun k hk hk5 => by rw [hU]; exact (heap_setCell_other W11 ⟨w.heap.size + 1, 20, none⟩ k _ (by show k ≠ w.heap.size + 1; omega)).trans (K10.out k hk hk5))
  have sz11 := Lib.hid (show Z0.heap.size ≤ U11.heap.size by rw [hU]; have := sz10.out; have := hA'.size; simp [World.setCell]; omega)
  have UH11 := Lib.hid hU
  clear hU hA' GG
  have HE := Lib.hid (err_any rb l11 e11 U11 g11.rd)
  have G11 := Lib.hid g11
  clear g11
  go_wp2_with fail
  rw [← UH11.out]
  clear cz10 fz10
  refine HE.out.mono ?_
  rintro e W12 ⟨rfl, rfl⟩
  clear HE
  have hthr : U11.there w.heap.size 0 21 := there_of G11.out.rs (by show 21 ≤ 21; omega)
  obtain ⟨z, hz⟩ : ∃ z : Jb, z = ⟨xs, xst, xdu, xtk, xfl, xrs, xwk, xod, xcr, xrn, xms⟩ := ⟨_, rfl⟩
  by_cases he : e11 = 0
  · subst he
    have hrng : U11.rangeAt (w.heap.size + 1) 0 z.cs := range_of (by rw [hz]; exact G11.out.sb)
    have hone : z.cs.toArray.all (·.oneCell') = true := all_oneCell_toArray z.one
    have hthr' : U11.there w.heap.size 0 z.cs.toArray.size := hthr
    obtain ⟨X, hX⟩ : ∃ X, X = setAll w.heap.size 0 U11 z.cs := ⟨_, rfl⟩
    obtain ⟨x1, x2, x3, x4⟩ := G11.out.fin hrb z.cs rfl
    rw [← hX] at x1 x2 x3 x4
    have HXX := Lib.hid (And.intro x1 (And.intro x2 (And.intro x3 x4)))
    have HHX := Lib.hid (And.intro hX hz)
    clear hthr x1 x2 x3 x4 hX hz
    go_wp2_with (first | (refine wpList_load_mid rfl 42 _ rfl (w.heap.size + 1) 0 rfl z.cs _ hrng Tryz.underlying42 rfl info_job ?_) | (refine wpList_store_mid rfl 42 _ _ rfl w.heap.size 0 z.cs.toArray rfl rfl hthr' info_job hone ?_))
    rw [setCells_all, ← HHX.out.1]
    obtain ⟨x1, x2, x3, x4⟩ := HXX.out
    have hz := HHX.out.2
    refine bodyPost_ret (v := .agg z.cs.toArray) ?_ rfl ?_
    · rw [results_c1 rfl]
      exact run_loadVar_mid X w.heap.size 0 42 z.cs _ (range_of x1) Tryz.underlying42 rfl info_job
    · obtain ⟨hwx, hdx, hnx, hgx, hA0⟩ := HX.out
      have hz2 := hZ0.out
      have hus := hU0s.out
      have e1 : ∀ g cur, U0.heap.size ≤ g → Z0.heap[g]? = some (Obj.cells cur 9 (0, 0)) → X.heap[g]? = Z0.heap[g]? := fun g cur hg hc => (x4 g (by omega)).trans (KU11.out g (by omega) (lt_of_block hc))
      have hj : Jd X z ∧ Own1 X w.heap.size z := by
        rw [hz]
        rcases hgx with h0 | ⟨g, cur, e2, e3, e4⟩
        · exact ⟨⟨hdx.1, hdx.2.1, .inl h0⟩, .inl h0⟩
        · have e5 := e1 g cur e3 e4
          refine ⟨⟨hdx.1, hdx.2.1, ?_⟩, .inr ⟨g, cur, e2, by omega, e5.trans e4⟩⟩
          rcases hdx.2.2 with h0 | ⟨b, o, k1, k2⟩
          · exact .inl h0
          · rw [e2] at k1
            obtain ⟨rfl, rfl⟩ : g = b ∧ 0 = o := by simpa using k1
            exact .inr ⟨g, 0, e2, fun i hi => (World.cell?_of_block (w := Z0) (a := ⟨g, 0 + i, none⟩) e5).trans (k2 i hi)⟩
      refine ⟨z, l11, 0, rfl, ?_, hj.1, x2, x3, fun _ => ?_, fun h => absurd rfl h, by rw [hz]; exact hnx, by rw [hz]; exact WF6.out, hj.2⟩
      · rw [hz]
        exact ⟨hwx, WF1.out, WF2.out, WF3.out, WF4.out, WF5.out, WF7.out, WF8.out, WF9.out, WF10.out⟩
      · obtain ⟨q10, t10⟩ := Hk10.out (by first | rfl | trivial)
        obtain ⟨q9, t9⟩ := Hk9.out q10
        obtain ⟨q8, t8⟩ := Hk8.out q9
        obtain ⟨q7, t7⟩ := Hk7.out q8
        obtain ⟨q6, t6⟩ := Hk6.out q7
        obtain ⟨q5, t5⟩ := Hk5.out q6
        obtain ⟨q4, t4⟩ := Hk4.out q5
        obtain ⟨q3, t3⟩ := Hk3.out q4
        obtain ⟨q2, t2⟩ := Hk2.out q3
        obtain ⟨q1, t1⟩ := Hk1.out q2
        obtain ⟨q0, t0⟩ := Hk0.out q1
        refine ⟨q0, ?_⟩
        rw [t0, t1, t2, t3, t4, t5, t6, t7, t8, t9, t10, hz]
        unfold jobB restB
        simp only [List.append_assoc]
  · have hne : (e11 != 0) = true := by simpa using he
    have hone : jobZ.toArray.all (·.oneCell') = true := by rw [List.all_toArray]; rfl
    have hthr' : U11.there w.heap.size 0 jobZ.toArray.size := hthr
    obtain ⟨X, hX⟩ : ∃ X, X = setAll w.heap.size 0 U11 jobZ := ⟨_, rfl⟩
    obtain ⟨x1, x2, x3, x4⟩ := G11.out.fin hrb jobZ rfl
    rw [← hX] at x1 x2 x3 x4
    have HXX := Lib.hid (And.intro x1 (And.intro x2 (And.intro x3 x4)))
    have HHX := Lib.hid hX
    clear hthr x1 x2 x3 x4 hX hz
    go_wp2_with (refine wpList_store_mid rfl 42 _ _ rfl w.heap.size 0 jobZ.toArray rfl rfl hthr' info_job hone ?_)
    rw [setCells_all, ← HHX.out]
    obtain ⟨x1, x2, x3, x4⟩ := HXX.out
    refine bodyPost_ret (v := .agg jobZ.toArray) ?_ rfl ?_
    · rw [results_c1 rfl]
      exact run_loadVar_mid X w.heap.size 0 42 jobZ _ (range_of x1) Tryz.underlying42 rfl info_job
    · refine ⟨zjob, l11, e11, rfl, ?_, ⟨rfl, fun _ => rfl, .inl rfl⟩, x2, x3, fun h => absurd h he, fun _ => rfl, by decide, by decide, .inl rfl⟩
      unfold zjob zsp Jb.wf Sp.Spc.wf Sp.W64 U64
      decide
end Go.Proofs.YtcodjknhnhdkfaaGreatDoor.Im
namespace Go.Proofs.YtcodjknhnhdkfaaGreatDoor.Im
open Go.RowKit Go.Lib Wn Rf By Cm
set_option linter.unusedVariables false
set_option maxRecDepth 20000
theorem getJF_idle (p q : Addr) (w : World) :
    CallsD Tryz.prog 33 #[.pointer (some p), .pointer (some q)] .returning w fun e u' w' => e = .returned (.tuple #[]) ∧ u' = .returning ∧ w' = w := by
  refine callsD_of_wpS Tryz.func33 rfl fun c₀ cs hu => ?_
  apply wpS_seq
  apply wpS_region
  simp [wpOpsS, go_sem, recoverD, hu, Tryz.ntmps33, Exit.thenS]
  refine wpS_cond (t := false) (by simp [Act.eval, Array.replicate]) ?_
  simp only [Bool.false_eq_true, if_false]
  refine wpS_of_wp (wp_skip ?_)
  cases c₀
  simp_all [bodyPostS, results, Tryz.results33]
/-- what Get answers -/
def GotJs (rb m : Nat) (l : List UInt8) (er : Int) (w : World) (e : Ending) (w' : World) : Prop :=
  ∃ (v : Value) (xs : List Jb) (l' : List UInt8) (er' : Int), e = .returned v ∧ Ga w.heap.size w' v xs.length xs xs ∧ xs.length ≤ m ∧ Rd w' rb l' er' ∧ Ar rb w w' ∧
    (er' = 0 → er = 0 ∧ l = uvarint xs.length ++ (xs.flatMap jobB ++ l')) ∧ (er' ≠ 0 → xs = []) ∧ ∀ x ∈ xs, x.wf ∧ x.sp.n ≤ 255 ∧ x.wk.size ≤ 255
/-- in the midst of it -/
structure GSJ (w : World) (rb : Nat) (v : Value) (xs : List Jb) (wr : World) : Prop where
  b3 : wr.heap[w.heap.size]? = some (.cells #[.pointer (some ⟨rb, 0, none⟩)] 31 (0, 0))
  b6 : wr.heap[w.heap.size + 1]? = some (.cells #[v] 36 (0, 0))
  row : Ga (w.heap.size + 2) wr v xs.length xs xs
  ar : Ar rb w wr
theorem GSJ.ar' {w : World} {rb : Nat} {v : Value} {xs : List Jb} {wr w' : World} (h : GSJ w rb v xs wr) (hrb : rb < w.heap.size) (hA : Ar rb wr w') : GSJ w rb v xs w' :=
  ⟨(hA.block _ (lt_of_block h.b3) (by omega)).trans h.b3, (hA.block _ (lt_of_block h.b6) (by omega)).trans h.b6, h.row.kept fun g hg hgl => hA.block g hgl (by omega), h.ar.trans hA⟩
theorem GSJ.at {w : World} {rb : Nat} {v : Value} {xs : List Jb} {wr w' : World} (h : GSJ w rb v xs wr) (hrb : rb < w.heap.size) (hA : At rb wr w') : GSJ w rb v xs w' := h.ar' hrb hA.ar
theorem GSJ.below {w : World} {rb : Nat} {v : Value} {xs : List Jb} {wr w' : World} (h : GSJ w rb v xs wr) (hrb : rb < w.heap.size) (hA : Below wr.heap.size wr w') : GSJ w rb v xs w' := h.ar' hrb (Ar.ofBelow hA)
theorem Ga.grow {B k : Nat} {w : World} {v : Value} {xs : List Jb} (h : Ga B w v k xs xs) (x : Jb) : Ga B w v k (xs ++ [x]) xs where
  own := h.own
  len := h.len
  like i a b ha hb := by
    have hi := (List.getElem?_eq_some_iff.1 hb).1
    rw [List.getElem?_append_left hi] at ha
    rw [ha] at hb
    obtain rfl := Option.some.inj hb
    exact Like.refl a
  d := h.d
theorem Ga.self {B k : Nat} {w : World} {v : Value} {js ls : List Jb} (h : Ga B w v k js ls) : Ga B w v k ls ls where
  own := h.own
  len := h.len
  like i a b ha hb := by
    rw [ha] at hb
    obtain rfl := Option.some.inj hb
    exact Like.refl a
  d := h.d
theorem Ga.from' {B B' k : Nat} {w : World} {v : Value} {js ls : List Jb} (h : Ga B w v k js ls) (hB : B' ≤ B) : Ga B' w v k js ls where
  own := by
    refine ⟨h.own.1, ?_⟩
    rcases h.own.2 with h1 | ⟨g, cap, cur, h1, h2, h3⟩
    · exact .inl h1
    · exact .inr ⟨g, cap, cur, h1, by omega, h3⟩
  len := h.len
  like := h.like
  d y hy := ⟨(h.d y hy).1, (h.d y hy).2.imp_right fun ⟨g, cur, h1, h2, h3⟩ => ⟨g, cur, h1, by omega, h3⟩⟩
theorem wpList_buildJ {ops : Array Oper} {rest : List Oper} {o : Oper} {a : Act} {w : World} {Q : Exit → Act → World → Prop} (hg : o.guard = none) (x : Operand) (ho : o.op = .buildSlice 36 1 #[(0, x)]) (y : Jb) (hx : a.eval x = .agg y.cs.toArray)
    (h : wpList Tryz.prog ops Q rest (a.put o.dst (.slice (some ⟨w.heap.size, 0, none⟩) 1 1)) (w.alloc (.cells y.cs.toArray 42))) : wpList Tryz.prog ops Q (o :: rest) a w :=
  wpList_plain hg fun _ hK => wp_buildJ x ho y hx (hK _ _ h)
theorem store_box {w W : World} {rb : Nat} {v v' : Value} {ys : List Jb} (b3 : W.heap[w.heap.size]? = some (.cells #[.pointer (some ⟨rb, 0, none⟩)] 31 (0, 0))) (b6 : W.heap[w.heap.size + 1]? = some (.cells #[v] 36 (0, 0)))
    (row : Ga (w.heap.size + 2) W v' ys.length ys ys) (ar : Ar rb w W) {l : List UInt8} {e : Int} (hr : Rd W rb l e) (hrb : rb < w.heap.size) :
    W.cell? ⟨w.heap.size + 1, 0, none⟩ = some v ∧ W.frozen? ⟨w.heap.size + 1, 0, none⟩ = false ∧ GSJ w rb v' ys (W.setCell ⟨w.heap.size + 1, 0, none⟩ v') ∧ Rd (W.setCell ⟨w.heap.size + 1, 0, none⟩ v') rb l e := by
  have hc : ∀ k, k ≠ w.heap.size + 1 → (W.setCell ⟨w.heap.size + 1, 0, none⟩ v').heap[k]? = W.heap[k]? := fun k hk => heap_setCell_other W ⟨w.heap.size + 1, 0, none⟩ k v' hk
  refine ⟨cell_of_one b6, free_of_one b6, ⟨(hc _ (by omega)).trans b3, one_setCell b6, row.kept fun g hg _ => hc g (by omega), ⟨ar.os, ar.tape, ar.output, by have := ar.size; simp [World.setCell]; omega, fun k hk hn => (hc k (by omega)).trans (ar.block k hk hn)⟩⟩, hr.kept (hc rb (by omega)) (fun g cur hg => hc g ?_)⟩
  rintro rfl
  rw [b6] at hg
  simp at hg
theorem GSJ.step {w Y W : World} {rb : Nat} {v v' : Value} {xs ys : List Jb} {js : List Jb} {k : Nat} (h : GSJ w rb v xs Y) (hrb : rb < w.heap.size) (hg : Ga (w.heap.size + 2) W v' k js ys) (hf : Hp.Fr (fun b => v.ownBlock = some b) Y W) {l : List UInt8} {e : Int} (hr : Rd Y rb l e) :
    W.cell? ⟨w.heap.size + 1, 0, none⟩ = some v ∧ W.frozen? ⟨w.heap.size + 1, 0, none⟩ = false ∧ GSJ w rb v' ys (W.setCell ⟨w.heap.size + 1, 0, none⟩ v') ∧ Rd (W.setCell ⟨w.heap.size + 1, 0, none⟩ v') rb l e := by
  have hn : ∀ b, b < w.heap.size + 2 → ¬ v.ownBlock = some b := fun b hb e => by have := (own_block h.row.own e).1; omega
  have hlt := lt_of_block h.b6
  refine store_box ((hf.block _ (by omega) (hn _ (by omega))).trans h.b3) ((hf.block _ hlt (hn _ (by omega))).trans h.b6) (by rw [hg.len]; exact hg.self) ⟨hf.os.trans h.ar.os, hf.tape.trans h.ar.tape, hf.output.trans h.ar.output, Nat.le_trans h.ar.size hf.size, fun b hb hb2 => (hf.block b (by omega) (hn b (by omega))).trans (h.ar.block b hb hb2)⟩ ?_ hrb
  refine hr.kept (hf.block rb (by omega) (hn rb (by omega))) (fun g cur hg' => hf.block g (lt_of_block hg') (fun e2 => ?_))
  obtain ⟨_, _, cur2, h5⟩ := own_block h.row.own e2
  rw [hg'] at h5
  simp at h5
set_option maxHeartbeats 2000000 in
theorem get_j (rb m : Nat) (l : List UInt8) (er : Int) (w : World) (h : Rd w rb l er) (hm : m ≤ 1000) :
    Calls Tryz.prog 11 #[.pointer (some ⟨rb, 0, none⟩), .int .i64 m, .func (.func 12) #[] #[]] w (GotJs rb m l er w) := by
  obtain ⟨i0, hi, hz0, hz1, hz2⟩ := info_parts infoJ
  have hmf : ∀ (fn : Fn) (first cap : Array Value) (w : World), (Instr.makeFunc fn first cap).run Tryz.prog w = .ok (.func fn first cap) w := fun _ _ _ _ => rfl
  obtain ⟨V, hV⟩ : ∃ V, V = (w.alloc (.cells #[.pointer (some ⟨rb, 0, none⟩)] 31)).alloc (.cells #[.slice none 0 0] 36) := ⟨_, rfl⟩
  have hb : Below w.heap.size w V := by rw [hV]; exact ((Below.refl _ _).alloc (Nat.le_refl _) _).alloc (by simp) _
  have hrb := h.lt
  have g0 : GSJ w rb (.slice none 0 0) [] V := by
    refine ⟨?_, ?_, Ga.nil _ _ _, Ar.ofBelow hb⟩
    · rw [hV]; exact ((Below.refl (w.heap.size + 1) _).alloc (by simp) _ |>.block _ (by omega)).trans (heap_alloc_new w _)
    · rw [hV]
      have := heap_alloc_new (w.alloc (.cells #[.pointer (some ⟨rb, 0, none⟩)] 31)) (.cells #[.slice none 0 0] 36)
      rwa [World.size_alloc] at this
  have hR := h.below hb
  have HC := Lib.hid (count_r rb l er m V hR (by omega))
  have HG := Lib.hid (And.intro g0 hrb)
  clear hR hb g0 h
  go_enter_defers Tryz.func11, Tryz.ntmps11
  go_wp2_with fail
  rw [← hV]
  have HV := Lib.hid hV
  clear hV
  refine HC.out.mono ?_
  rintro e w1 ⟨n, l1, er1, rfl, hn, hr1, hA1, hb1, hz1', hf1⟩
  have g1 := HG.out.1.at hrb hA1
  have H1 := Lib.hid (And.intro hb1 (And.intro hz1' hf1))
  clear hb1 hz1' hf1 hA1 HC
  go_wp2_with fail
  go_loopw [12] (fun s12 wr => ∃ (v : Value) (xs : List Jb) (lk : List UInt8), s12 = .int .i64 xs.length ∧ xs.length ≤ n ∧ GSJ w rb v xs wr ∧ Rd wr rb lk er1 ∧ l1 = xs.flatMap jobB ++ lk ∧ ∀ x ∈ xs, x.wf ∧ x.sp.n ≤ 255 ∧ x.wk.size ≤ 255) (fun s12 _ => n - (RowKit.intOf s12).toNat)
  case atStart => exact ⟨_, [], l1, rfl, Nat.zero_le _, g1, hr1, rfl, fun x hx => by simp at hx⟩
  case round =>
    obtain ⟨v, xs, lk, rfl, hk, gk, hrk, hlk, hwk⟩ := hrel
    have c3 := cell_of_one gk.b3
    have c6 := cell_of_one gk.b6
    have f6 := free_of_one gk.b6
    have hszr : w.heap.size + 1 < wr.heap.size := lt_of_block gk.b6
    have HL := Lib.hid (And.intro hlk hwk)
    clear hlk hwk g1 hr1
    by_cases hlt : xs.length < n
    · have he1 : er1 = 0 := Classical.byContradiction fun q => by have := H1.out.2.1 q; omega
      subst he1
      go_wp2_with fail
      refine (getJob_any rb lk 0 wr hrk).mono ?_
      rintro e w2 ⟨x, l2, er2, rfl, hwx, hdx, hr2, hA2, hb2, -, hnx, hzx, hox⟩
      have g2 := gk.ar' hrb hA2
      have g2b := Lib.hid g2.b6
      have hszr' := Lib.hid (show w.heap.size + 2 ≤ wr.heap.size from hszr)
      have H2 := Lib.hid (And.intro hb2 (And.intro hwx (And.intro hdx (And.intro hnx (And.intro hzx hox)))))
      obtain ⟨C, hC⟩ : ∃ C, C = x.cs.toArray := ⟨_, rfl⟩
      have hCl : C.toList = x.cs := by rw [hC]
      obtain ⟨Y, hY⟩ : ∃ Y, Y = w2.alloc (.cells C 42) := ⟨_, rfl⟩
      have hbY : Below w2.heap.size w2 Y := by rw [hY]; exact (Below.refl _ _).alloc (Nat.le_refl _) _
      have hYx : Y.heap[w2.heap.size]? = some (.cells C 42 (0, 0)) := by rw [hY]; exact heap_alloc_new w2 _
      have hsc := sc_job w2 C (by rw [hC]; rfl) (by rw [hCl]; exact x.one)
      unfold jobZ at hsc
      have hrY : Y.rangeAt w2.heap.size 0 C.toList := range_of (by rw [hYx])
      have hinf : (Tryz.prog.info? 42).map (·.size) = some C.toList.length := by rw [hCl]; exact info_job
      have hCs : C.size = 21 := by rw [hC]; rfl
      have g3 := g2.below hrb hbY
      have hr3 := hr2.below hbY
      have c3' := cell_of_one g2.b3
      have c6' := cell_of_one g2.b6
      have c3Y := cell_of_one g3.b3
      have c6Y := cell_of_one g3.b6
      have f6' := free_of_one g3.b6
      have HE := Lib.hid (err_any rb l2 er2 Y hr3)
      have HC := Lib.hid (And.intro hC hCl)
      rw [← hC]
      have HG3 := Lib.hid (And.intro g3 hr3)
      clear hb2 hA2 c3 c6 f6 gk hrk hszr hC hCl hbY hYx hwx hdx hnx hox g2 hr2 g3 hr3
      go_upto_region 5 with fail
      rw [← hY]
      have HY := Lib.hid hY
      clear hY hsc
      go_wp2_with fail
      refine HE.out.mono ?_
      rintro e w3 ⟨rfl, rfl⟩
      clear HE
      by_cases he2 : er2 = 0
      · subst he2
        have hlen : xs.length ≤ 1000 := by omega
        obtain ⟨hxw, hxd, hxn, hxz, hxo⟩ := H2.out.2
        have hbY : Below w2.heap.size w2 Y := by rw [HY.out]; exact (Below.refl _ _).alloc (Nat.le_refl _) _
        have hs2 : w.heap.size + 2 ≤ w2.heap.size := by have := lt_of_block g2b.out; omega
        have hoY : Own1 Y (w.heap.size + 2) x := (hxo.old hbY).imp_right fun ⟨g, cur, e1, e2, e3⟩ => ⟨g, cur, e1, by have := hszr'.out; omega, e3⟩
        obtain ⟨v', W5, hra, gw, fw⟩ := (HG3.out.1.row.grow x).push (lt_of_block HG3.out.1.b6) (Below.refl _ Y) (x := x) (y := x) (by simp) (Like.refl x) (hxd.old hbY) hoY (by omega) 36
        rw [← HC.out.1] at hra
        have hst := HG3.out.1.step hrb gw fw HG3.out.2
        obtain ⟨a5, c5, hv5⟩ := gw.shape
        subst hv5
        obtain ⟨c5', f5', g5, r5⟩ := hst
        have HG5 := Lib.hid (And.intro g5 r5)
        clear gw fw hxw hxd hxn hxz hxo hbY hoY g5 r5 hs2
        go_wp2_with (first | (refine wpList_load_mid rfl 42 _ rfl w2.heap.size 0 rfl C.toList _ hrY Tryz.underlying42 rfl hinf ?_) | (refine wpList_buildJ rfl _ rfl x (by rw [← HC.out.1]; rfl) ?_; rw [← HC.out.1]) | (at_builtin; refine Lib.wpList_append_run _ rfl _ _ _ _ rfl _ _ rfl rfl _ _ hra ?_))
        refine ⟨⟨_, xs ++ [x], l2, by simp, by simp; omega, HG5.out.1, HG5.out.2, by rw [List.flatMap_append, List.append_assoc, HL.out.1, (H2.out.1 trivial).2]; simp, fun y hy => ?_⟩, by simp only [RowKit.intOf]; omega⟩
        rcases List.mem_append.1 hy with hy | hy
        · exact HL.out.2 y hy
        · obtain rfl := List.mem_singleton.1 hy
          exact ⟨H2.out.2.1, H2.out.2.2.2.1, H2.out.2.2.2.2.1⟩
      · obtain ⟨s1, s2, s3, s4⟩ := store_box (v' := .slice none 0 0) (ys := []) HG3.out.1.b3 HG3.out.1.b6 (Ga.nil _ _ _) HG3.out.1.ar HG3.out.2 hrb
        have HW : GotJs rb m l er w (.returned (.slice none 0 0)) (Y.setCell ⟨w.heap.size + 1, 0, none⟩ (.slice none 0 0)) :=
          ⟨_, [], l2, er2, rfl, Ga.nil _ _ _, Nat.zero_le _, s4, s3.ar, fun q => absurd q he2, fun _ => rfl, fun y hy => by simp at hy⟩
        have HW' := Lib.hid HW
        have hne : (er2 != 0) = true := by simpa using he2
        have c5 : (Y.setCell ⟨w.heap.size + 1, 0, none⟩ (.slice none 0 0)).cell? ⟨w.heap.size + 1, 0, none⟩ = some (.slice none 0 0) := cell_of_one s3.b6
        clear HW s1 s2 s3 s4
        go_wp2_with fail
        refine leaves_cons (f := 33) (args := #[.pointer (some ⟨w.heap.size, 0, none⟩), .pointer (some ⟨w.heap.size + 1, 0, none⟩)]) (by simp) (by simp [go_sem]) ?_
        refine (getJF_idle ⟨w.heap.size, 0, none⟩ ⟨w.heap.size + 1, 0, none⟩ _).mono ?_
        rintro e u' w'' ⟨rfl, rfl, rfl⟩
        simp [Leaves, settle, results, Tryz.results11, go_sem, c5]
        exact HW'.out
    · have hkn : xs.length = n := by omega
      have hnn : ¬ (xs.length : Int) < n := by omega
      obtain ⟨ao, cp, hao⟩ := gk.row.shape
      subst hao
      obtain ⟨s1, s2, s3, s4⟩ := store_box gk.b3 gk.b6 gk.row gk.ar hrk hrb
      have HW : GotJs rb m l er w (.returned (.slice ao xs.length cp)) (wr.setCell ⟨w.heap.size + 1, 0, none⟩ (.slice ao xs.length cp)) := by
        refine ⟨_, xs, lk, er1, rfl, s3.row.from' (by omega), by omega, s4, s3.ar, fun q => ?_, fun q => ?_, HL.out.2⟩
        · obtain ⟨e0, e1⟩ := H1.out.1 q
          exact ⟨e0, by rw [hkn, ← HL.out.1]; exact e1⟩
        · have := H1.out.2.1 q
          exact List.length_eq_zero_iff.1 (by omega)
      have c5 : (wr.setCell ⟨w.heap.size + 1, 0, none⟩ (.slice ao xs.length cp)).cell? ⟨w.heap.size + 1, 0, none⟩ = some (.slice ao xs.length cp) := cell_of_one s3.b6
      rw [hkn] at HW c5
      have HW' := Lib.hid HW
      clear HW gk hrk s1 s2 s3 s4
      go_wp2_with fail
      refine leaves_cons (f := 33) (args := #[.pointer (some ⟨w.heap.size, 0, none⟩), .pointer (some ⟨w.heap.size + 1, 0, none⟩)]) (by simp) (by simp [go_sem]) ?_
      refine (getJF_idle ⟨w.heap.size, 0, none⟩ ⟨w.heap.size + 1, 0, none⟩ _).mono ?_
      rintro e u' w'' ⟨rfl, rfl, rfl⟩
      simp [Leaves, settle, results, Tryz.results11, go_sem, c5]
      exact HW'.out
end Go.Proofs.YtcodjknhnhdkfaaGreatDoor.Im
namespace Go.Proofs.YtcodjknhnhdkfaaGreatDoor.Im
open Go.RowKit Go.Lib
set_option linter.unusedVariables false
set_option maxRecDepth 20000
/-- names of jobs that lie in a row -/
def Nrow (w : World) (a : Option Addr) (n : Nat) (ds : List ByteArray) : Prop := ds.length = n ∧ (n = 0 ∨ ∃ b, a = some ⟨b, 0, none⟩ ∧ ∀ i (h : i < ds.length), w.cell? ⟨b, i * 21, none⟩ = some (.string ds[i]))
theorem Nrow.old {w w' : World} {a : Option Addr} {n : Nat} {ds : List ByteArray} (h : Nrow w a n ds) (hb : Below w.heap.size w w') : Nrow w' a n ds :=
  ⟨h.1, h.2.imp_right fun ⟨b, e, q⟩ => ⟨b, e, fun i hi => (hb.cell (World.block_lt_of_cell? w _ (q i hi))).trans (q i hi)⟩⟩
theorem Js.nrow {w : World} {a : Option Addr} {n : Nat} {xs : List Jb} (h : Js w a n xs) : Nrow w a n (xs.map fun x => x.sp.nm) := by
  refine ⟨by rw [List.length_map]; exact h.len, h.at'.imp_right fun ⟨b, e, q⟩ => ⟨b, e, fun i hi => ?_⟩⟩
  rw [List.length_map] at hi
  have := q i hi 0 _ (rfl : xs[i].cs[0]? = some (.string xs[i].sp.nm))
  rw [List.getElem_map]
  exact this
theorem below_dn {B : Nat} {a w : World} (h : Below B a w) (n : Nat) : Below B a (w.drewN n) := ⟨h.os, h.tape, h.output, h.size, h.block⟩
set_option maxHeartbeats 4000000 in
theorem rise_any {a : Option Addr} {n c : Nat} {ds : List ByteArray} {w : World} (hd : Nrow w a n ds) (hm : n ≤ 1000000) :
    Calls Tryz.prog 15 #[.slice a n c] w fun e w' => e = .returned (.bool (Sp.riseB ds)) ∧ Below w.heap.size w w' := by
  have HB := Lib.hid (And.intro hd hd.1)
  have hle := Sp.le_bytes
  clear hd
  go_enter Tryz.func15, Tryz.ntmps15
  go_wp2_with fail
  go_loopw [3] (fun s3 wr => ∃ m : Nat, s3 = .int .i64 (m : Nat) ∧ 1 ≤ m ∧ (m = 1 ∨ m ≤ n) ∧ Below w.heap.size w wr ∧ ∀ j (h : j + 1 < ds.length), j + 1 < m → ds[j].data.toList < ds[j + 1].data.toList) (fun s3 _ => n - (RowKit.intOf s3).toNat)
  case atStart => exact ⟨1, rfl, Nat.le_refl _, .inl rfl, Below.refl _ _, fun j _ h => absurd h (by omega)⟩
  case round =>
    obtain ⟨m, rfl, hm1, hmn, hbw, hall⟩ := hrel
    obtain ⟨j, hj⟩ : ∃ j, m = j + 1 := ⟨m - 1, by omega⟩
    by_cases hlt : m < n
    · have hkl : m < ds.length := by rw [HB.out.2]; exact hlt
      have hjn : j < n := by omega
      have hjl : j < ds.length := by omega
      have hdw := HB.out.1.old hbw
      rcases hdw.2 with h0 | ⟨b, rfl, hat⟩
      · omega
      have hc0 := hat j hjl
      have hc1 := hat m hkl
      have HA := Lib.hid (And.intro hall (And.intro hbw (And.intro hmn (And.intro hj hm1))))
      have hltI : (m : Int) < (n : Nat) := by omega
      have hw1 : IntKind.i64.wrap ((m : Int) - 1) = (j : Nat) := by rw [show (m : Int) - 1 = (j : Nat) by omega]; exact IntWalk.i64_in _ (by omega)
      have hll := hle ds[m] ds[j]
      obtain ⟨r, hr⟩ : ∃ r, decide (ds[j].data.toList < ds[m].data.toList) = r := ⟨_, rfl⟩
      rw [hr] at hll
      obtain ⟨x, hx⟩ : ∃ x, x = ds[j] := ⟨_, rfl⟩
      obtain ⟨y, hy⟩ : ∃ x, x = ds[m] := ⟨_, rfl⟩
      rw [← hx] at hc0 hll; rw [← hy] at hc1 hll
      have HR := Lib.hid (show (r = false → Sp.riseB ds = false) ∧ (r = true → ∀ i (h : i + 1 < ds.length), i + 1 < m + 1 → ds[i].data.toList < ds[i + 1].data.toList) from by
        subst hj
        refine ⟨fun e => Sp.rise_no hkl (by rw [e] at hr; exact of_decide_eq_false hr), fun e i hi h => ?_⟩
        by_cases hij : i = j
        · subst hij; rw [e] at hr; exact of_decide_eq_true hr
        · exact HA.out.1 i hi (by omega))
      clear hall hat hdw hbw hle hr hx hy hj hm1 hmn
      cases r with
      | false =>
        have HE := Lib.hid (HR.out.1 rfl)
        clear HR
        have hcmp : ∀ W, (binOp .leq 9 (.string y) (.string x)).run Tryz.prog W = .ok (.bool true) W := fun W => by have h9 := hll; simp only [Bool.not_false] at h9; simp only [binOp, Op.stringOp, h9]; rfl
        clear hll
        go_wp2_with fail
        go_quiet (fail)
        go_wp2_with fail
        go_ret
        exact ⟨by rw [HE.out]; rfl, below_dn HA.out.2.1 _⟩
      | true =>
        have HE := Lib.hid (HR.out.2 rfl)
        clear HR
        have hcmp : ∀ W, (binOp .leq 9 (.string y) (.string x)).run Tryz.prog W = .ok (.bool false) W := fun W => by have h9 := hll; simp only [Bool.not_true] at h9; simp only [binOp, Op.stringOp, h9]; rfl
        clear hll
        go_wp2_with fail
        go_quiet (fail)
        go_wp2_with fail
        go_roundw
        case rel => exact ⟨m + 1, by simp, by omega, .inr hlt, below_dn HA.out.2.1 _, HE.out⟩
        case measure => simp [RowKit.intOf]; omega
    · have e : Sp.riseB ds = true := Sp.rise_yes fun i hi => hall i hi (by have := HB.out.2; omega)
      have HE := Lib.hid (And.intro e hbw)
      have hltI : ¬ (m : Int) < (n : Nat) := by omega
      clear hall e hbw hle hmn hj
      go_wp2_with fail
      go_ret
      exact ⟨by rw [HE.out.1]; rfl, HE.out.2⟩
end Go.Proofs.YtcodjknhnhdkfaaGreatDoor.Im
