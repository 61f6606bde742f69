
/- WheelNone, walked -/
import Derived.Test.YtcafiehlhdoibaaWh18
namespace Go.Proofs.Ytcafiehlhdoibaa.Wh
open Go.RowKit Go.Lib Go.Sort Go.Maps Hp Ht Rg
set_option linter.unusedVariables false
attribute [local go_sem] Oper.semAt_some
set_option maxRecDepth 20000
set_option maxHeartbeats 4000000 in
theorem none_any (w : World) (s : ByteArray) (t : Int) : Calls Try.prog 5 #[.string s, .int .i64 t] w fun e w' => e = .returned (.bool true) ∧ Below w.heap.size w w' := by
  have hL := lives_any w
  have h1 := fun W => nil_turn W t
  have h2 := fun W => nil_at W (.string s)
  have h3 := nil_next
  have h4 := nil_all
  have h5 := fun W => nil_add W s t
  have h6 := fun W => nil_cut W s
  have h7 := nil_len
  have h8 := nil_now
  have h9 := nil_copy
  refine (callsIn_wide (n := 3)).1 ?_
  refine callsIn_of_wp_marks Try.func5 rfl trivial ?_ rfl
  simp only [Try.ntmps5, List.size_toArray, List.length_cons, List.length_nil, Nat.reduceAdd, Nat.reduceSub, Array.replicate_succ, Array.replicate_zero, List.push_toArray, List.append_toArray, List.nil_append, List.cons_append]
  refine wpIn_wide.2 ?_
  go_wp2_with fail
  refine hL.mono ?_
  rintro e w1 ⟨rfl, b1⟩
  have HB := Lib.hid b1
  clear b1 hL
  go_wp2_with fail
  refine (h1 _).mono ?_
  rintro e w2 ⟨rfl, rfl⟩
  go_wp2_with fail
  refine (h2 _).mono ?_
  rintro e w2 ⟨rfl, rfl⟩
  go_wp2_with fail
  refine (h3 _).mono ?_
  rintro e w2 ⟨rfl, rfl⟩
  go_wp2_with fail
  obtain ⟨W2, hW2⟩ : ∃ W, W = w2.alloc (.cells #[.int .i64 0] 3) := ⟨_, rfl⟩
  have oW : W2.heap[w2.heap.size]? = some (.cells #[.int .i64 0] 3 (0, 0)) := by rw [hW2]; exact (MapKept.heap_alloc w2 _).1
  have zW : W2.heap.size = w2.heap.size + 1 := by rw [hW2]; simp
  have bW : Below w.heap.size w W2 := by rw [hW2]; exact HB.out.alloc HB.out.size _
  rw [← hW2]
  refine (h4 _).mono ?_
  rintro e W3 ⟨rfl, c3, b3⟩
  have o3 := (b3.block _ (by omega)).trans oW
  have b3' : Below w.heap.size w W3 := bW.trans (b3.mono bW.size)
  have hit := all_iter (n := 2) w2.heap.size (w2.heap.size + 1) W3.heap.size W2.heap.size W3 c3 (World.block_lt_of_cell? _ _ c3) (Nat.le_refl _) (.inl ⟨rfl, rfl⟩) (fun a n c e => by cases e) (l := []) (by simp)
  have H3 := Lib.hid (And.intro hit (And.intro o3 (And.intro b3' (And.intro zW b3.size))))
  have hw2 := HB.out.size
  have HS := Lib.hid hw2
  clear hit o3 b3' c3 b3 bW oW zW hW2 HB hw2
  go_wp2_with fail
  refine (wpIn_wide (n := 3)).1 ?_
  refine range_exit (br := false) rfl (by omega) (gf := 27) (lb := #[.pointer (some ⟨W2.heap.size, 0, none⟩)]) rfl trivial (enters_of Try.func27 (by kernel_rfl) rfl)
    (H3.out.1.x) (fun _ => rfl) (fun m A => A.heap[w2.heap.size]? = some (.cells #[.int .i64 0] 3 (0, 0)) ∧ Below w.heap.size w A ∧ W3.heap.size ≤ A.heap.size) (fun _ _ _ => False) ?hcalm (fun _ _ _ _ h _ => h) (fun _ _ _ h => h.elim) ⟨H3.out.2.1, H3.out.2.2.1, Nat.le_refl _⟩ (fun m x A A' h _ => h) (fun m x A A' _ _ h _ _ => h) ?hround ?hdone (fun _ _ _ _ _ h _ => h.elim)
  case hcalm =>
    rintro m A A' ⟨h1, h2, h3⟩ e
    exact ⟨e.cell h1, h2.trans (e.below (Nat.le_trans HS.out (by have := H3.out.2.2.2; omega)) h3), Nat.le_trans h3 e.size⟩
  case hround =>
    rintro lp m x A hlB _ hI ⟨hm, _⟩
    simp at hm
  case hdone =>
    intro D m2 X hD hS hI hK
    obtain ⟨i1, i2, i3⟩ := hI
    have c1 : X.cell? ⟨w2.heap.size, 0, none⟩ = some (.int .i64 0) := by rw [cell_of_row _ _ _ _ _ _ i1]; rfl
    have HX := Lib.hid (And.intro i2 (And.intro hD (And.intro hK i3)))
    clear i1 i2 i3 hD hK hS
    dsimp only
    go_wp2_with fail
    go_quiet (first | (go_at_call 19; exact Calls.quiet_of_same (h5 _)) | (go_at_call 21; exact Calls.quiet_of_same (h6 _)) | (go_at_call 11; exact Calls.quiet_of_same (h7 _)) | (go_at_call 10; exact Calls.quiet_of_same (h8 _)) | (go_at_call 22; exact Calls.quiet_of_same (h9 _)))
    rename_i nq
    go_wp2_with fail
    refine leaveV rfl rfl (HX.out.2.2.1) fun X' hbut => ⟨rfl, ?_⟩
    obtain ⟨i2, hD, hK, i3⟩ := HX.out
    have i2' : Below w.heap.size w (X.drewN nq) := ⟨i2.os, i2.tape, i2.output, i2.size, i2.block⟩
    exact i2'.trans (hbut.below (by have := H3.out.2.2.2; have := HS.out; omega))
end Go.Proofs.Ytcafiehlhdoibaa.Wh
