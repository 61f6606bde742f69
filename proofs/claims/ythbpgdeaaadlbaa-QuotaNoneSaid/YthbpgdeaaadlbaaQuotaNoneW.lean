
/- QuotaNone, walked -/
import Derived.Test.YthbpgdeaaadlbaaQtC
namespace Go.Proofs.Ythbpgdeaaadlbaa.Qt
open Go.RowKit Go.Lib Go.Maps Go.WideElems Go.ChangeMaps Go.MapKept Go.Sort Hp Rg
set_option linter.unusedVariables false
attribute [local go_sem] Oper.semAt_some
set_option maxRecDepth 20000
set_option maxHeartbeats 1000000 in
theorem none_any (w : World) (s : ByteArray) (n : Int) : Calls Try.prog 4 #[.string s, .int .i64 n] w fun e w' => e = .returned (.bool true) ∧ Below w.heap.size w w' := by
  obtain ⟨V, hV⟩ : ∃ V, V = w.alloc (.cells #[.bool false] 4) := ⟨_, rfl⟩
  have bV : Below w.heap.size w V := by rw [hV]; exact (Below.refl _ w).alloc (Nat.le_refl _) _
  have rV : V.heap[w.heap.size]? = some (.cells #[.bool false] 4 (0, 0)) := by rw [hV]; exact (MapKept.heap_alloc w _).1
  have zV : V.heap.size = w.heap.size + 1 := by rw [hV]; simp
  have HV := Lib.hid (And.intro bV (And.intro rV zV))
  clear bV rV zV
  refine (callsIn_wide (n := 5)).1 ?_
  refine callsIn_of_wp_marks Try.func4 rfl trivial ?_ rfl
  simp only [Try.ntmps4, List.size_toArray, List.length_cons, List.length_nil, Nat.reduceAdd, Nat.reduceSub, Array.replicate_succ, Array.replicate_zero, List.push_toArray, List.append_toArray, List.nil_append, List.cons_append]
  refine wpIn_wide.2 ?_
  go_wp2_with fail
  rw [← hV]
  clear hV
  refine (lives13_any _).mono ?_
  rintro e w1 ⟨rfl, b1⟩
  have HB1 := Lib.hid b1
  clear b1
  go_wp2_with fail
  refine (All_nil _).mono ?_
  rintro e w2 ⟨b3, b4, ls, rfl, t, b2⟩
  have hls : ls = [] := List.eq_nil_iff_forall_not_mem.2 fun k hk => by have := ((t.ks.2 k).1 hk).2; simp at this
  subst hls
  have hit := all_iter (5 - 1) w1.heap.size w1.heap.size w1.heap.size b3 b4 w2 t (Nat.le_refl _)
  have HB2 := Lib.hid (And.intro b2 t)
  clear b2 t
  have r2 : w2.heap[w.heap.size]? = some (.cells #[.bool false] 4 (0, 0)) := (HB2.out.1.block _ (by have := HB1.out.size; have := HV.out.2.2; omega)).trans ((HB1.out.block _ (by have := HV.out.2.2; omega)).trans HV.out.2.1)
  have HR2 := Lib.hid r2
  clear r2
  go_wp2_with fail
  refine (wpIn_wide (n := 5)).1 ?_
  refine range_exit (br := false) rfl (by omega) (gf := 21) (lb := #[.pointer (some ⟨b4, 0, none⟩), .pointer (some ⟨b3, 0, none⟩)]) rfl trivial (enters_of Try.func21 (by kernel_rfl) rfl)
    (hit.x) (fun _ => rfl) (fun m A => A.heap[w.heap.size]? = some (.cells #[.bool false] 4 (0, 0)) ∧ Below w.heap.size w A ∧ w2.heap.size ≤ A.heap.size) (fun _ _ _ => False)
    (fun m A A' h e => ⟨e.cell h.1, h.2.1.trans (e.below (by have := HB2.out.1.size; have := HB1.out.size; have := HV.out.2.2; omega) h.2.2), Nat.le_trans h.2.2 e.size⟩) (fun _ _ _ _ h _ => h) (fun _ _ _ h => h.elim)
    ⟨HR2.out, HV.out.1.trans ((HB1.out.mono (by have := HV.out.2.2; omega)).trans (HB2.out.1.mono (by have := HB1.out.size; have := HV.out.2.2; omega))), Nat.le_refl _⟩ (fun m x A A' h _ => h) (fun m x A A' _ _ h _ _ => h) ?hround ?hdone (fun _ _ _ _ _ h _ => h.elim)
  case hround =>
    rintro lp m x X hlB ⟨rr, hlr⟩ hI ⟨hm, _⟩
    simp at hm
  case hdone =>
    intro D m2 X hD hS hI hK
    obtain ⟨cX, fX⟩ := c1_of hI.1
    have HX := Lib.hid (And.intro hI (And.intro hD hK))
    have hS1 := Set_nil (.string s) (.int .i64 n) X
    have hS2 := Take_nil (.string s) X
    have hS3 := Give_nil (.string s) X
    have hS4 := Has_nil (.string s) X
    have hS5 := May_nil (.string s) X
    have hS6 := Copy_nil X
    clear hI hD hK hit
    dsimp only
    go_wp2_with fail
    refine hS1.mono ?_
    rintro e Y ⟨rfl, rfl⟩
    clear hS1
    go_wp2_with fail
    refine hS2.mono ?_
    rintro e Y ⟨rfl, rfl⟩
    clear hS2
    go_wp2_with fail
    refine hS3.mono ?_
    rintro e Y ⟨rfl, rfl⟩
    clear hS3
    go_wp2_with fail
    refine hS4.mono ?_
    rintro e Y ⟨rfl, rfl⟩
    clear hS4
    go_wp2_with fail
    refine hS5.mono ?_
    rintro e Y ⟨rfl, rfl⟩
    clear hS5
    go_wp2_with fail
    refine hS6.mono ?_
    rintro e Y ⟨rfl, rfl⟩
    clear hS6
    go_wp2_with fail
    obtain ⟨⟨h1, h2, h3⟩, hD, hK⟩ := HX.out
    have hne : D ≠ w.heap.size := fun e => by rw [e, h1] at hK; cases hK
    refine leaveC rfl rfl rfl ?_ ?_ (fun X' hbut => ⟨rfl, ?_⟩)
    · rw [heap_setCell_other _ _ _ _ hne]; exact hK
    · exact World.cell?_setCell_same _ _ _ cX
    · have hz := HB2.out.1.size
      have hz1 := HB1.out.size
      have hz2 := HV.out.2.2
      exact (h2.setCell (Nat.le_refl _) _).trans (hbut.below (by omega))
end Go.Proofs.Ythbpgdeaaadlbaa.Qt
