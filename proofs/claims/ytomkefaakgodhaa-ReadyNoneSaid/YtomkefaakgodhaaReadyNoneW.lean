
/- ReadyNone, walked -/
import Derived.Test.YtomkefaakgodhaaNxC
namespace Go.Proofs.Ytomkefaakgodhaa.Nx
open Go.RowKit Go.Lib Go.Sort Go.Shelf Hp HpE Ht Rg
set_option linter.unusedVariables false
attribute [local go_sem] Oper.semAt_some
set_option maxRecDepth 20000
set_option maxHeartbeats 1000000 in
theorem none_any (w : World) (s : ByteArray) (n : Int) : Calls Try.prog 4 #[.string s, .int .i64 n] w fun e w' => e = .returned (.bool true) ∧ Below w.heap.size w w' := by
  obtain ⟨V, hV⟩ : ∃ V, V = w.alloc (.cells #[.bool false] 4) := ⟨_, rfl⟩
  have bV : Below w.heap.size w V := by rw [hV]; exact (Below.refl _ w).alloc (Nat.le_refl _) _
  have rV : V.heap[w.heap.size]? = some (.cells #[.bool false] 4 (0, 0)) := by rw [hV]; exact (MapKept.heap_alloc w _).1
  have zV : V.heap.size = w.heap.size + 1 := by rw [hV]; simp
  have HV := Lib.hid (And.intro bV (And.intro rV zV))
  clear bV rV zV
  refine (callsIn_wide (n := 5)).1 ?_
  refine callsIn_of_wp_marks Try.func4 rfl trivial ?_ rfl
  simp only [Try.ntmps4, List.size_toArray, List.length_cons, List.length_nil, Nat.reduceAdd, Nat.reduceSub, Array.replicate_succ, Array.replicate_zero, List.push_toArray, List.append_toArray, List.nil_append, List.cons_append]
  refine wpIn_wide.2 ?_
  go_wp2_with fail
  rw [← hV]
  clear hV
  refine (lives15_any _).mono ?_
  rintro e w1 ⟨rfl, b1⟩
  have HB1 := Lib.hid (HV.out.1.trans (b1.mono (by have := HV.out.2.2; omega)))
  have r1 := (b1.block _ (by have := HV.out.2.2; omega)).trans HV.out.2.1
  have z1 := b1.size
  clear b1
  go_wp2_with fail
  refine (Next_nil _).mono ?_
  rintro e w2 ⟨rfl, b2⟩
  have HB2 := Lib.hid (HB1.out.trans (b2.mono HB1.out.size))
  have r2 := (b2.block _ (by have := HV.out.2.2; omega)).trans r1
  have z2 := b2.size
  clear b2 r1
  go_wp2_with fail
  refine (Take_nil _).mono ?_
  rintro e w3 ⟨rfl, b3⟩
  have HB3 := Lib.hid (HB2.out.trans (b3.mono HB2.out.size))
  have r3 := (b3.block _ (by have := HV.out.2.2; omega)).trans r2
  have z3 : w.heap.size < w3.heap.size := by have := b3.size; have := HV.out.2.2; omega
  clear b3 r2 z1 z2
  go_wp2_with fail
  refine (All_nil _).mono ?_
  rintro e w4 ⟨rfl, h4⟩
  have b4 : Below w3.heap.size w3 w4 := by rw [h4]; exact (Below.refl _ _).alloc (Nat.le_refl _) _
  have c4 : w4.cell? ⟨w3.heap.size, 0, none⟩ = some (.slice none 0 0) := by rw [h4]; exact (cell_of_row _ _ 0 _ _ _ (MapKept.heap_alloc w3 _).1).trans rfl
  have z4 : w4.heap.size = w3.heap.size + 1 := by rw [h4]; simp
  have hit := names_iter (5 - 1) w3.heap.size w3.heap.size w4.heap.size w3.heap.size 0 w4 (l := []) c4 (by omega) (.inr (Nat.le_refl _)) (Nat.le_refl _) ⟨rfl, .inl ⟨rfl, rfl⟩⟩ (fun b e => by cases e) (by simp)
  have r4 := (b4.block _ z3).trans r3
  have HB4 := Lib.hid (And.intro (HB3.out.trans (b4.mono HB3.out.size)) (And.intro r4 (And.intro z3 z4)))
  clear b4 c4 r4 r3 h4 z3 z4
  go_wp2_with fail
  refine (wpIn_wide (n := 5)).1 ?_
  refine range_exit (br := false) rfl (by omega) (gf := 30) (lb := #[.pointer (some ⟨w3.heap.size, 0, none⟩)]) rfl trivial (enters_of Try.func30 (by kernel_rfl) rfl)
    (hit.x) (fun _ => rfl) (fun m A => A.heap[w.heap.size]? = some (.cells #[.bool false] 4 (0, 0)) ∧ Below w.heap.size w A ∧ w4.heap.size ≤ A.heap.size) (fun _ _ _ => False)
    (fun m A A' h e => ⟨e.cell h.1, h.2.1.trans (e.below (by have := HB4.out.2.2; omega) h.2.2), Nat.le_trans h.2.2 e.size⟩) (fun _ _ _ _ h _ => h) (fun _ _ _ h => h.elim)
    ⟨HB4.out.2.1, HB4.out.1, Nat.le_refl _⟩ (fun m x A A' h _ => h) (fun m x A A' _ _ h _ _ => h) ?hround ?hdone (fun _ _ _ _ _ h _ => h.elim)
  case hround =>
    rintro lp m x X hlB ⟨rr, hlr⟩ hI ⟨hm, _⟩
    simp at hm
  case hdone =>
    intro D m2 X hD hS hI hK
    obtain ⟨cX, fX⟩ := c1_of hI.1
    have HX := Lib.hid (And.intro hI (And.intro hD hK))
    have hS1 := Put_nil X (.string s) (.int .i64 n) (.int .u64 1)
    have hS2 := Cut_nil X (.string s)
    have hS3 := Has_nil X (.string s)
    have hS4 := Len_nil X (.int .i64 n)
    have hS5 := Copy_nil X
    clear hI hD hK hit
    dsimp only
    go_wp2_with fail
    refine hS1.mono ?_
    rintro e Y ⟨rfl, rfl⟩
    clear hS1
    go_wp2_with fail
    refine hS2.mono ?_
    rintro e Y ⟨rfl, rfl⟩
    clear hS2
    go_wp2_with fail
    refine hS3.mono ?_
    rintro e Y ⟨rfl, rfl⟩
    clear hS3
    go_wp2_with fail
    refine hS4.mono ?_
    rintro e Y ⟨rfl, rfl⟩
    clear hS4
    go_wp2_with fail
    refine hS5.mono ?_
    rintro e Y ⟨rfl, rfl⟩
    clear hS5
    go_wp2_with fail
    obtain ⟨⟨h1, h2, h3⟩, hD, hK⟩ := HX.out
    have hne : D ≠ w.heap.size := fun e => by rw [e, h1] at hK; cases hK
    refine leaveC rfl rfl rfl ?_ ?_ (fun X' hbut => ⟨rfl, ?_⟩)
    · rw [heap_setCell_other _ _ _ _ hne]; exact hK
    · exact World.cell?_setCell_same _ _ _ cX
    · have hz := HB4.out.2.2
      exact (h2.setCell (Nat.le_refl _) _).trans (hbut.below (by omega))
end Go.Proofs.Ytomkefaakgodhaa.Nx
