
/- the walk of CalendarTicks -/
import Derived.Test.YtipcfdiibbehbaaCa6
import Derived.Test.YtipcfdiibbehbaaCa8
import Derived.Deep.DeepCutAuto
import Derived.Test.YtipcfdiibbehbaaHd
import Derived.Shelf.Abstract
namespace Go.Proofs.Ytipcfdiibbehbaa.Ca
open Go.RowKit Go.Lib Go.Proofs.Ytipcfdiibbehbaa.Ht
attribute [local go_sem] Oper.semAt_some
set_option linter.unusedVariables false

/-- what Tick tells of any moment -/
def tickV (y mo d h mi : Int) : Value := if vldB y mo d h mi = true then (if y < 2000 ∨ 2093917 < y then .tuple #[.int .i64 0, .int .i64 3] else tkV (tk y mo d h mi)) else .tuple #[.int .i64 0, .int .i64 1]
theorem Tick_any (y mo d wd h mi : Int) (w : World) (hy : I64 y) (hm : I64 mo) (hd : I64 d) (hh : I64 h) (hi : I64 mi) :
    Calls Try.prog 9 #[mom y mo d wd h mi] w fun e w' => e = .returned (tickV y mo d h mi) ∧ Below w.heap.size w w' := by
  unfold tickV
  cases hv : vldB y mo d h mi
  · rw [if_neg (by decide)]; exact Tick_arg y mo d wd h mi w hy hm hd hh hi hv
  · rw [if_pos rfl]
    by_cases hf : y < 2000 ∨ 2093917 < y
    · rw [if_pos hf]; exact Tick_far y mo d wd h mi w hy hm hd hh hi hv hf
    · rw [if_neg hf]; exact Tick_near y mo d wd h mi w hm hv (by omega) (by omega)

/-- the law's own test of a moment, behind a cut -/
def Bad (b : Bool) (W : World) (s : Value) (W' : World) : Prop := s = .bool b ∧ Below W.heap.size W W'

set_option maxRecDepth 20000 in
set_option maxHeartbeats 4000000 in
theorem ticks_walk (y mo d wd h mi : Int) (w : World) (hy : I64 y) (hm : I64 mo) (hd : I64 d) (hw : I64 wd) (hh : I64 h) (hi : I64 mi) :
    Calls Try.prog 3 #[mom y mo d wd h mi] w fun e w' => e = .returned (.bool true) ∧ Below w.heap.size w w' := by
  have hT := fun W => Tick_any y mo d wd h mi W hy hm hd hh hi
  have hQ := fun W => length_any y mo W hy hm
  obtain ⟨V, eV⟩ : ∃ V, V = tickV y mo d h mi := ⟨_, rfl⟩
  simp only [← eV] at hT
  obtain ⟨T, E, eTE⟩ : ∃ T E : Int, V = .tuple #[.int .i64 T, .int .i64 E] := by
    rw [eV]; unfold tickV tkV; repeat' split
    all_goals exact ⟨_, _, rfl⟩
  simp only [eTE] at hT
  rw [eTE] at eV
  have H0 := Lib.hid (And.intro hT (And.intro hQ eV))
  have HI := Lib.hid (And.intro hy (And.intro hm (And.intro hd (And.intro hw (And.intro hh hi)))))
  clear hT hQ eV eTE hy hm hd hw hh hi
  go_enter Try.func3, Try.ntmps3
  go_wp2_with fail
  refine (lives06_any _).mono ?_
  rintro e w1 ⟨rfl, hb⟩
  have hk := old_blk hb (heap_alloc_new w _)
  have hb1 := ((Below.refl w.heap.size w).alloc (Nat.le_refl _) (.cells (momC y mo d wd h mi) 23)).trans (hb.mono (by simp))
  have hz : w.heap.size < w1.heap.size := by have := hb.size; simp at this; omega
  obtain ⟨⟨c0, c1, c2, c3, c4, c5⟩, fz⟩ := mom_cells hk
  have H1 := Lib.hid (And.intro hk (And.intro hb1 hz))
  clear hk hb hb1 fz hz
  go_wp2_with fail
  refine (H0.out.1 _).mono ?_
  rintro e w2 ⟨rfl, hb⟩
  have hk2 := old_blk hb H1.out.1
  have hb2 := H1.out.2.1.trans (hb.mono H1.out.2.1.size)
  have hz2 : w.heap.size < w2.heap.size := by have := hb.size; have := H1.out.2.2; omega
  have H2 := Lib.hid (And.intro hk2 (And.intro hb2 hz2))
  clear c0 c1 c2 c3 c4 c5 hk2 hb hb2 hz2 H1
  go_wp2_with fail
  obtain ⟨B, hB⟩ : ∃ B, B = vldB y mo d h mi := ⟨_, rfl⟩
  have HB := Lib.hid hB
  clear hB
  go_cut [57] from 15 to 57 (fun s wx => Bad (!B) w2 s wx)
  case first =>
    obtain ⟨⟨c0, c1, c2, c3, c4, c5⟩, fz⟩ := mom_cells H2.out.1
    have hq := H0.out.2.1
    obtain ⟨L, eL⟩ : ∃ L, L = dm y mo := ⟨_, rfl⟩
    simp only [← eL] at hq
    have hB := HB.out
    have hv : ∀ (_ : ¬ (1 ≤ d ∧ d ≤ L ∧ 0 ≤ h ∧ h < 24 ∧ 0 ≤ mi ∧ mi < 60)), B = false := by
      intro k; rw [eL] at k; rw [hB]; exact vldB_false k
    have hv2 : ∀ (_ : 1 ≤ d ∧ d ≤ L ∧ 0 ≤ h ∧ h < 24 ∧ 0 ≤ mi ∧ mi < 60), B = true := by
      intro k; rw [eL] at k; rw [hB]; exact vldB_true.2 k
    have hL0 : mo < 1 ∨ 12 < mo → L = 0 := by intro g; rw [eL]; exact dm_none g
    have HV := Lib.hid (And.intro hv (And.intro hv2 hL0))
    obtain ⟨i0, i1, i2, i3, i4, i5⟩ := HI.out
    unfold I64 at i0 i1 i2 i3 i4 i5
    have HLT := Lib.hid H2.out.2.2
    have HQ := Lib.hid hq
    have hmix : Try.prog.follows .mixedOrders = true := by kernel_rfl
    clear hB hv hv2 hL0 hq eL fz c3 i3
    refine begin' 43 (fun X => Below w2.heap.size w2 X) hmix (Below.refl w2.heap.size w2).drew (fun hS0 => ?_)
    refine Ht.takeN (i := 0) ⟨some 15, _, _, _, _, _⟩ (.pointer (some ⟨w.heap.size, 1, none⟩)) rfl (Nat.le_refl 43) (by kernel_rfl) (by kernel_rfl) (by kernel_rfl) (by kernel_rfl) hS0 (Or.inl ⟨by rfl, by (intro X hX; go_simp)⟩) ?_
    simp only [Act.put, List.setIfInBounds_toArray, List.set_cons_zero, List.set_cons_succ]
    refine Ht.takeN (i := 1) ⟨some 16, _, _, _, _, _⟩ (.int .i64 mo) rfl (Nat.le_refl 43) (by kernel_rfl) (by kernel_rfl) (by kernel_rfl) (by kernel_rfl) hS0 (Or.inl ⟨by rfl, by (intro X hX; have h1 := (hX.cell (p := ⟨w.heap.size, 1, none⟩) HLT.out).trans c1; go_simp)⟩) ?_
    simp only [Act.put, List.setIfInBounds_toArray, List.set_cons_zero, List.set_cons_succ]
    by_cases a1 : mo < 1
    · have ba1 : decide (mo < 1) = true := decide_eq_true a1
      refine Ht.takeN (i := 2) ⟨some 17, _, _, _, _, _⟩ (.bool true) rfl (Nat.le_refl 43) (by kernel_rfl) (by kernel_rfl) (by kernel_rfl) (by kernel_rfl) hS0 (Or.inl ⟨by rfl, by (intro X hX; go_simp)⟩) ?_
      simp only [Act.put, List.setIfInBounds_toArray, List.set_cons_zero, List.set_cons_succ]
      refine Ht.takeN (i := 3) ⟨some 18, _, _, _, _, _⟩ (.bool true) rfl (Nat.le_refl 43) (by kernel_rfl) (by kernel_rfl) (by kernel_rfl) (by kernel_rfl) hS0 (Or.inl ⟨by rfl, by (intro X hX; go_simp)⟩) ?_
      simp only [Act.put, List.setIfInBounds_toArray, List.set_cons_zero, List.set_cons_succ]
      refine Ht.takeN (i := 4) ⟨some 19, _, _, _, _, _⟩ (undef) rfl (Nat.le_refl 43) (by kernel_rfl) (by kernel_rfl) (by kernel_rfl) (by kernel_rfl) hS0 (Or.inr ⟨by rfl, rfl⟩) ?_
      simp only [Act.put, List.setIfInBounds_toArray, List.set_cons_zero, List.set_cons_succ]
      refine Ht.takeN (i := 5) ⟨some 20, _, _, _, _, _⟩ (undef) rfl (Nat.le_refl 43) (by kernel_rfl) (by kernel_rfl) (by kernel_rfl) (by kernel_rfl) hS0 (Or.inr ⟨by rfl, rfl⟩) ?_
      simp only [Act.put, List.setIfInBounds_toArray, List.set_cons_zero, List.set_cons_succ]
      refine Ht.takeN (i := 6) ⟨some 21, _, _, _, _, _⟩ (undef) rfl (Nat.le_refl 43) (by kernel_rfl) (by kernel_rfl) (by kernel_rfl) (by kernel_rfl) hS0 (Or.inr ⟨by rfl, rfl⟩) ?_
      simp only [Act.put, List.setIfInBounds_toArray, List.set_cons_zero, List.set_cons_succ]
      refine Ht.takeN (i := 7) ⟨some 22, _, _, _, _, _⟩ (.bool true) rfl (Nat.le_refl 43) (by kernel_rfl) (by kernel_rfl) (by kernel_rfl) (by kernel_rfl) hS0 (Or.inl ⟨by rfl, by (intro X hX; go_simp)⟩) ?_
      simp only [Act.put, List.setIfInBounds_toArray, List.set_cons_zero, List.set_cons_succ]
      refine Ht.takeN (i := 8) ⟨some 23, _, _, _, _, _⟩ (.bool true) rfl (Nat.le_refl 43) (by kernel_rfl) (by kernel_rfl) (by kernel_rfl) (by kernel_rfl) hS0 (Or.inl ⟨by rfl, by (intro X hX; go_simp)⟩) ?_
      simp only [Act.put, List.setIfInBounds_toArray, List.set_cons_zero, List.set_cons_succ]
      refine Ht.takeN (i := 9) ⟨some 24, _, _, _, _, _⟩ (undef) rfl (Nat.le_refl 43) (by kernel_rfl) (by kernel_rfl) (by kernel_rfl) (by kernel_rfl) hS0 (Or.inr ⟨by rfl, rfl⟩) ?_
      simp only [Act.put, List.setIfInBounds_toArray, List.set_cons_zero, List.set_cons_succ]
      refine Ht.takeN (i := 10) ⟨some 25, _, _, _, _, _⟩ (undef) rfl (Nat.le_refl 43) (by kernel_rfl) (by kernel_rfl) (by kernel_rfl) (by kernel_rfl) hS0 (Or.inr ⟨by rfl, rfl⟩) ?_
      simp only [Act.put, List.setIfInBounds_toArray, List.set_cons_zero, List.set_cons_succ]
      refine Ht.takeN (i := 11) ⟨some 26, _, _, _, _, _⟩ (undef) rfl (Nat.le_refl 43) (by kernel_rfl) (by kernel_rfl) (by kernel_rfl) (by kernel_rfl) hS0 (Or.inr ⟨by rfl, rfl⟩) ?_
      simp only [Act.put, List.setIfInBounds_toArray, List.set_cons_zero, List.set_cons_succ]
      refine Ht.takeN (i := 12) ⟨some 27, _, _, _, _, _⟩ (.bool true) rfl (Nat.le_refl 43) (by kernel_rfl) (by kernel_rfl) (by kernel_rfl) (by kernel_rfl) hS0 (Or.inl ⟨by rfl, by (intro X hX; go_simp)⟩) ?_
      simp only [Act.put, List.setIfInBounds_toArray, List.set_cons_zero, List.set_cons_succ]
      refine Ht.takeN (i := 13) ⟨some 28, _, _, _, _, _⟩ (.bool true) rfl (Nat.le_refl 43) (by kernel_rfl) (by kernel_rfl) (by kernel_rfl) (by kernel_rfl) hS0 (Or.inl ⟨by rfl, by (intro X hX; go_simp)⟩) ?_
      simp only [Act.put, List.setIfInBounds_toArray, List.set_cons_zero, List.set_cons_succ]
      refine Ht.takeN (i := 14) ⟨some 29, _, _, _, _, _⟩ (undef) rfl (Nat.le_refl 43) (by kernel_rfl) (by kernel_rfl) (by kernel_rfl) (by kernel_rfl) hS0 (Or.inr ⟨by rfl, rfl⟩) ?_
      simp only [Act.put, List.setIfInBounds_toArray, List.set_cons_zero, List.set_cons_succ]
      refine Ht.takeN (i := 15) ⟨some 30, _, _, _, _, _⟩ (undef) rfl (Nat.le_refl 43) (by kernel_rfl) (by kernel_rfl) (by kernel_rfl) (by kernel_rfl) hS0 (Or.inr ⟨by rfl, rfl⟩) ?_
      simp only [Act.put, List.setIfInBounds_toArray, List.set_cons_zero, List.set_cons_succ]
      refine Ht.takeN (i := 16) ⟨some 31, _, _, _, _, _⟩ (undef) rfl (Nat.le_refl 43) (by kernel_rfl) (by kernel_rfl) (by kernel_rfl) (by kernel_rfl) hS0 (Or.inr ⟨by rfl, rfl⟩) ?_
      simp only [Act.put, List.setIfInBounds_toArray, List.set_cons_zero, List.set_cons_succ]
      refine Ht.takeN (i := 17) ⟨some 32, _, _, _, _, _⟩ (undef) rfl (Nat.le_refl 43) (by kernel_rfl) (by kernel_rfl) (by kernel_rfl) (by kernel_rfl) hS0 (Or.inr ⟨by rfl, rfl⟩) ?_
      simp only [Act.put, List.setIfInBounds_toArray, List.set_cons_zero, List.set_cons_succ]
      refine Ht.takeN (i := 18) ⟨some 33, _, _, _, _, _⟩ (undef) rfl (Nat.le_refl 43) (by kernel_rfl) (by kernel_rfl) (by kernel_rfl) (by kernel_rfl) hS0 (Or.inr ⟨by rfl, rfl⟩) ?_
      simp only [Act.put, List.setIfInBounds_toArray, List.set_cons_zero, List.set_cons_succ]
      refine Ht.takeN (i := 19) ⟨some 34, _, _, _, _, _⟩ (undef) rfl (Nat.le_refl 43) (by kernel_rfl) (by kernel_rfl) (by kernel_rfl) (by kernel_rfl) hS0 (Or.inr ⟨by rfl, rfl⟩) ?_
      simp only [Act.put, List.setIfInBounds_toArray, List.set_cons_zero, List.set_cons_succ]
      refine Ht.takeN (i := 20) ⟨some 35, _, _, _, _, _⟩ (undef) rfl (Nat.le_refl 43) (by kernel_rfl) (by kernel_rfl) (by kernel_rfl) (by kernel_rfl) hS0 (Or.inr ⟨by rfl, rfl⟩) ?_
      simp only [Act.put, List.setIfInBounds_toArray, List.set_cons_zero, List.set_cons_succ]
      refine Ht.takeN (i := 21) ⟨some 36, _, _, _, _, _⟩ (undef) rfl (Nat.le_refl 43) (by kernel_rfl) (by kernel_rfl) (by kernel_rfl) (by kernel_rfl) hS0 (Or.inr ⟨by rfl, rfl⟩) ?_
      simp only [Act.put, List.setIfInBounds_toArray, List.set_cons_zero, List.set_cons_succ]
      refine Ht.takeN (i := 22) ⟨some 37, _, _, _, _, _⟩ (.bool true) rfl (Nat.le_refl 43) (by kernel_rfl) (by kernel_rfl) (by kernel_rfl) (by kernel_rfl) hS0 (Or.inl ⟨by rfl, by (intro X hX; go_simp)⟩) ?_
      simp only [Act.put, List.setIfInBounds_toArray, List.set_cons_zero, List.set_cons_succ]
      refine Ht.takeN (i := 23) ⟨some 38, _, _, _, _, _⟩ (.bool true) rfl (Nat.le_refl 43) (by kernel_rfl) (by kernel_rfl) (by kernel_rfl) (by kernel_rfl) hS0 (Or.inl ⟨by rfl, by (intro X hX; go_simp)⟩) ?_
      simp only [Act.put, List.setIfInBounds_toArray, List.set_cons_zero, List.set_cons_succ]
      refine Ht.takeN (i := 24) ⟨some 39, _, _, _, _, _⟩ (undef) rfl (Nat.le_refl 43) (by kernel_rfl) (by kernel_rfl) (by kernel_rfl) (by kernel_rfl) hS0 (Or.inr ⟨by rfl, rfl⟩) ?_
      simp only [Act.put, List.setIfInBounds_toArray, List.set_cons_zero, List.set_cons_succ]
      refine Ht.takeN (i := 25) ⟨some 40, _, _, _, _, _⟩ (undef) rfl (Nat.le_refl 43) (by kernel_rfl) (by kernel_rfl) (by kernel_rfl) (by kernel_rfl) hS0 (Or.inr ⟨by rfl, rfl⟩) ?_
      simp only [Act.put, List.setIfInBounds_toArray, List.set_cons_zero, List.set_cons_succ]
      refine Ht.takeN (i := 26) ⟨some 41, _, _, _, _, _⟩ (undef) rfl (Nat.le_refl 43) (by kernel_rfl) (by kernel_rfl) (by kernel_rfl) (by kernel_rfl) hS0 (Or.inr ⟨by rfl, rfl⟩) ?_
      simp only [Act.put, List.setIfInBounds_toArray, List.set_cons_zero, List.set_cons_succ]
      refine Ht.takeN (i := 27) ⟨some 42, _, _, _, _, _⟩ (.bool true) rfl (Nat.le_refl 43) (by kernel_rfl) (by kernel_rfl) (by kernel_rfl) (by kernel_rfl) hS0 (Or.inl ⟨by rfl, by (intro X hX; go_simp)⟩) ?_
      simp only [Act.put, List.setIfInBounds_toArray, List.set_cons_zero, List.set_cons_succ]
      refine Ht.takeN (i := 28) ⟨some 43, _, _, _, _, _⟩ (.bool true) rfl (Nat.le_refl 43) (by kernel_rfl) (by kernel_rfl) (by kernel_rfl) (by kernel_rfl) hS0 (Or.inl ⟨by rfl, by (intro X hX; go_simp)⟩) ?_
      simp only [Act.put, List.setIfInBounds_toArray, List.set_cons_zero, List.set_cons_succ]
      refine Ht.takeN (i := 29) ⟨some 44, _, _, _, _, _⟩ (undef) rfl (Nat.le_refl 43) (by kernel_rfl) (by kernel_rfl) (by kernel_rfl) (by kernel_rfl) hS0 (Or.inr ⟨by rfl, rfl⟩) ?_
      simp only [Act.put, List.setIfInBounds_toArray, List.set_cons_zero, List.set_cons_succ]
      refine Ht.takeN (i := 30) ⟨some 45, _, _, _, _, _⟩ (undef) rfl (Nat.le_refl 43) (by kernel_rfl) (by kernel_rfl) (by kernel_rfl) (by kernel_rfl) hS0 (Or.inr ⟨by rfl, rfl⟩) ?_
      simp only [Act.put, List.setIfInBounds_toArray, List.set_cons_zero, List.set_cons_succ]
      refine Ht.takeN (i := 31) ⟨some 46, _, _, _, _, _⟩ (undef) rfl (Nat.le_refl 43) (by kernel_rfl) (by kernel_rfl) (by kernel_rfl) (by kernel_rfl) hS0 (Or.inr ⟨by rfl, rfl⟩) ?_
      simp only [Act.put, List.setIfInBounds_toArray, List.set_cons_zero, List.set_cons_succ]
      refine Ht.takeN (i := 32) ⟨some 47, _, _, _, _, _⟩ (.bool true) rfl (Nat.le_refl 43) (by kernel_rfl) (by kernel_rfl) (by kernel_rfl) (by kernel_rfl) hS0 (Or.inl ⟨by rfl, by (intro X hX; go_simp)⟩) ?_
      simp only [Act.put, List.setIfInBounds_toArray, List.set_cons_zero, List.set_cons_succ]
      refine Ht.takeN (i := 33) ⟨some 48, _, _, _, _, _⟩ (.bool true) rfl (Nat.le_refl 43) (by kernel_rfl) (by kernel_rfl) (by kernel_rfl) (by kernel_rfl) hS0 (Or.inl ⟨by rfl, by (intro X hX; go_simp)⟩) ?_
      simp only [Act.put, List.setIfInBounds_toArray, List.set_cons_zero, List.set_cons_succ]
      refine Ht.takeN (i := 34) ⟨some 49, _, _, _, _, _⟩ (undef) rfl (Nat.le_refl 43) (by kernel_rfl) (by kernel_rfl) (by kernel_rfl) (by kernel_rfl) hS0 (Or.inr ⟨by rfl, rfl⟩) ?_
      simp only [Act.put, List.setIfInBounds_toArray, List.set_cons_zero, List.set_cons_succ]
      refine Ht.takeN (i := 35) ⟨some 50, _, _, _, _, _⟩ (undef) rfl (Nat.le_refl 43) (by kernel_rfl) (by kernel_rfl) (by kernel_rfl) (by kernel_rfl) hS0 (Or.inr ⟨by rfl, rfl⟩) ?_
      simp only [Act.put, List.setIfInBounds_toArray, List.set_cons_zero, List.set_cons_succ]
      refine Ht.takeN (i := 36) ⟨some 51, _, _, _, _, _⟩ (undef) rfl (Nat.le_refl 43) (by kernel_rfl) (by kernel_rfl) (by kernel_rfl) (by kernel_rfl) hS0 (Or.inr ⟨by rfl, rfl⟩) ?_
      simp only [Act.put, List.setIfInBounds_toArray, List.set_cons_zero, List.set_cons_succ]
      refine Ht.takeN (i := 37) ⟨some 52, _, _, _, _, _⟩ (.bool true) rfl (Nat.le_refl 43) (by kernel_rfl) (by kernel_rfl) (by kernel_rfl) (by kernel_rfl) hS0 (Or.inl ⟨by rfl, by (intro X hX; go_simp)⟩) ?_
      simp only [Act.put, List.setIfInBounds_toArray, List.set_cons_zero, List.set_cons_succ]
      refine Ht.takeN (i := 38) ⟨some 53, _, _, _, _, _⟩ (.bool true) rfl (Nat.le_refl 43) (by kernel_rfl) (by kernel_rfl) (by kernel_rfl) (by kernel_rfl) hS0 (Or.inl ⟨by rfl, by (intro X hX; go_simp)⟩) ?_
      simp only [Act.put, List.setIfInBounds_toArray, List.set_cons_zero, List.set_cons_succ]
      refine Ht.takeN (i := 39) ⟨some 54, _, _, _, _, _⟩ (undef) rfl (Nat.le_refl 43) (by kernel_rfl) (by kernel_rfl) (by kernel_rfl) (by kernel_rfl) hS0 (Or.inr ⟨by rfl, rfl⟩) ?_
      simp only [Act.put, List.setIfInBounds_toArray, List.set_cons_zero, List.set_cons_succ]
      refine Ht.takeN (i := 40) ⟨some 55, _, _, _, _, _⟩ (undef) rfl (Nat.le_refl 43) (by kernel_rfl) (by kernel_rfl) (by kernel_rfl) (by kernel_rfl) hS0 (Or.inr ⟨by rfl, rfl⟩) ?_
      simp only [Act.put, List.setIfInBounds_toArray, List.set_cons_zero, List.set_cons_succ]
      refine Ht.takeN (i := 41) ⟨some 56, _, _, _, _, _⟩ (undef) rfl (Nat.le_refl 43) (by kernel_rfl) (by kernel_rfl) (by kernel_rfl) (by kernel_rfl) hS0 (Or.inr ⟨by rfl, rfl⟩) ?_
      simp only [Act.put, List.setIfInBounds_toArray, List.set_cons_zero, List.set_cons_succ]
      refine Ht.takeN (i := 42) ⟨some 57, _, _, _, _, _⟩ (.bool true) rfl (Nat.le_refl 43) (by kernel_rfl) (by kernel_rfl) (by kernel_rfl) (by kernel_rfl) hS0 (Or.inl ⟨by rfl, by (intro X hX; go_simp)⟩) ?_
      simp only [Act.put, List.setIfInBounds_toArray, List.set_cons_zero, List.set_cons_succ]
      refine done (by kernel_rfl) ?_
      obtain rfl : B = false := HV.out.1 (by first | (intro g; omega) | (have := HV.out.2.2 (by omega); intro g; omega))
      clear HV
      go_wp2_with fail
      go_meet
      exact ⟨rfl, by assumption⟩
    have ba1 : decide (mo < 1) = false := decide_eq_false a1
    refine Ht.takeN (i := 2) ⟨some 17, _, _, _, _, _⟩ (.bool false) rfl (Nat.le_refl 43) (by kernel_rfl) (by kernel_rfl) (by kernel_rfl) (by kernel_rfl) hS0 (Or.inl ⟨by rfl, by (intro X hX; go_simp)⟩) ?_
    simp only [Act.put, List.setIfInBounds_toArray, List.set_cons_zero, List.set_cons_succ]
    refine Ht.takeN (i := 3) ⟨some 18, _, _, _, _, _⟩ (.bool false) rfl (Nat.le_refl 43) (by kernel_rfl) (by kernel_rfl) (by kernel_rfl) (by kernel_rfl) hS0 (Or.inl ⟨by rfl, by (intro X hX; go_simp)⟩) ?_
    simp only [Act.put, List.setIfInBounds_toArray, List.set_cons_zero, List.set_cons_succ]
    refine Ht.takeN (i := 4) ⟨some 19, _, _, _, _, _⟩ (.pointer (some ⟨w.heap.size, 1, none⟩)) rfl (Nat.le_refl 43) (by kernel_rfl) (by kernel_rfl) (by kernel_rfl) (by kernel_rfl) hS0 (Or.inl ⟨by rfl, by (intro X hX; go_simp)⟩) ?_
    simp only [Act.put, List.setIfInBounds_toArray, List.set_cons_zero, List.set_cons_succ]
    refine Ht.takeN (i := 5) ⟨some 20, _, _, _, _, _⟩ (.int .i64 mo) rfl (Nat.le_refl 43) (by kernel_rfl) (by kernel_rfl) (by kernel_rfl) (by kernel_rfl) hS0 (Or.inl ⟨by rfl, by (intro X hX; have h1 := (hX.cell (p := ⟨w.heap.size, 1, none⟩) HLT.out).trans c1; go_simp)⟩) ?_
    simp only [Act.put, List.setIfInBounds_toArray, List.set_cons_zero, List.set_cons_succ]
    by_cases a2 : 12 < mo
    · have ba2 : decide (12 < mo) = true := decide_eq_true a2
      refine Ht.takeN (i := 6) ⟨some 21, _, _, _, _, _⟩ (.bool true) rfl (Nat.le_refl 43) (by kernel_rfl) (by kernel_rfl) (by kernel_rfl) (by kernel_rfl) hS0 (Or.inl ⟨by rfl, by (intro X hX; go_simp)⟩) ?_
      simp only [Act.put, List.setIfInBounds_toArray, List.set_cons_zero, List.set_cons_succ]
      refine Ht.takeN (i := 7) ⟨some 22, _, _, _, _, _⟩ (.bool true) rfl (Nat.le_refl 43) (by kernel_rfl) (by kernel_rfl) (by kernel_rfl) (by kernel_rfl) hS0 (Or.inl ⟨by rfl, by (intro X hX; go_simp)⟩) ?_
      simp only [Act.put, List.setIfInBounds_toArray, List.set_cons_zero, List.set_cons_succ]
      refine Ht.takeN (i := 8) ⟨some 23, _, _, _, _, _⟩ (.bool true) rfl (Nat.le_refl 43) (by kernel_rfl) (by kernel_rfl) (by kernel_rfl) (by kernel_rfl) hS0 (Or.inl ⟨by rfl, by (intro X hX; go_simp)⟩) ?_
      simp only [Act.put, List.setIfInBounds_toArray, List.set_cons_zero, List.set_cons_succ]
      refine Ht.takeN (i := 9) ⟨some 24, _, _, _, _, _⟩ (undef) rfl (Nat.le_refl 43) (by kernel_rfl) (by kernel_rfl) (by kernel_rfl) (by kernel_rfl) hS0 (Or.inr ⟨by rfl, rfl⟩) ?_
      simp only [Act.put, List.setIfInBounds_toArray, List.set_cons_zero, List.set_cons_succ]
      refine Ht.takeN (i := 10) ⟨some 25, _, _, _, _, _⟩ (undef) rfl (Nat.le_refl 43) (by kernel_rfl) (by kernel_rfl) (by kernel_rfl) (by kernel_rfl) hS0 (Or.inr ⟨by rfl, rfl⟩) ?_
      simp only [Act.put, List.setIfInBounds_toArray, List.set_cons_zero, List.set_cons_succ]
      refine Ht.takeN (i := 11) ⟨some 26, _, _, _, _, _⟩ (undef) rfl (Nat.le_refl 43) (by kernel_rfl) (by kernel_rfl) (by kernel_rfl) (by kernel_rfl) hS0 (Or.inr ⟨by rfl, rfl⟩) ?_
      simp only [Act.put, List.setIfInBounds_toArray, List.set_cons_zero, List.set_cons_succ]
      refine Ht.takeN (i := 12) ⟨some 27, _, _, _, _, _⟩ (.bool true) rfl (Nat.le_refl 43) (by kernel_rfl) (by kernel_rfl) (by kernel_rfl) (by kernel_rfl) hS0 (Or.inl ⟨by rfl, by (intro X hX; go_simp)⟩) ?_
      simp only [Act.put, List.setIfInBounds_toArray, List.set_cons_zero, List.set_cons_succ]
      refine Ht.takeN (i := 13) ⟨some 28, _, _, _, _, _⟩ (.bool true) rfl (Nat.le_refl 43) (by kernel_rfl) (by kernel_rfl) (by kernel_rfl) (by kernel_rfl) hS0 (Or.inl ⟨by rfl, by (intro X hX; go_simp)⟩) ?_
      simp only [Act.put, List.setIfInBounds_toArray, List.set_cons_zero, List.set_cons_succ]
      refine Ht.takeN (i := 14) ⟨some 29, _, _, _, _, _⟩ (undef) rfl (Nat.le_refl 43) (by kernel_rfl) (by kernel_rfl) (by kernel_rfl) (by kernel_rfl) hS0 (Or.inr ⟨by rfl, rfl⟩) ?_
      simp only [Act.put, List.setIfInBounds_toArray, List.set_cons_zero, List.set_cons_succ]
      refine Ht.takeN (i := 15) ⟨some 30, _, _, _, _, _⟩ (undef) rfl (Nat.le_refl 43) (by kernel_rfl) (by kernel_rfl) (by kernel_rfl) (by kernel_rfl) hS0 (Or.inr ⟨by rfl, rfl⟩) ?_
      simp only [Act.put, List.setIfInBounds_toArray, List.set_cons_zero, List.set_cons_succ]
      refine Ht.takeN (i := 16) ⟨some 31, _, _, _, _, _⟩ (undef) rfl (Nat.le_refl 43) (by kernel_rfl) (by kernel_rfl) (by kernel_rfl) (by kernel_rfl) hS0 (Or.inr ⟨by rfl, rfl⟩) ?_
      simp only [Act.put, List.setIfInBounds_toArray, List.set_cons_zero, List.set_cons_succ]
      refine Ht.takeN (i := 17) ⟨some 32, _, _, _, _, _⟩ (undef) rfl (Nat.le_refl 43) (by kernel_rfl) (by kernel_rfl) (by kernel_rfl) (by kernel_rfl) hS0 (Or.inr ⟨by rfl, rfl⟩) ?_
      simp only [Act.put, List.setIfInBounds_toArray, List.set_cons_zero, List.set_cons_succ]
      refine Ht.takeN (i := 18) ⟨some 33, _, _, _, _, _⟩ (undef) rfl (Nat.le_refl 43) (by kernel_rfl) (by kernel_rfl) (by kernel_rfl) (by kernel_rfl) hS0 (Or.inr ⟨by rfl, rfl⟩) ?_
      simp only [Act.put, List.setIfInBounds_toArray, List.set_cons_zero, List.set_cons_succ]
      refine Ht.takeN (i := 19) ⟨some 34, _, _, _, _, _⟩ (undef) rfl (Nat.le_refl 43) (by kernel_rfl) (by kernel_rfl) (by kernel_rfl) (by kernel_rfl) hS0 (Or.inr ⟨by rfl, rfl⟩) ?_
      simp only [Act.put, List.setIfInBounds_toArray, List.set_cons_zero, List.set_cons_succ]
      refine Ht.takeN (i := 20) ⟨some 35, _, _, _, _, _⟩ (undef) rfl (Nat.le_refl 43) (by kernel_rfl) (by kernel_rfl) (by kernel_rfl) (by kernel_rfl) hS0 (Or.inr ⟨by rfl, rfl⟩) ?_
      simp only [Act.put, List.setIfInBounds_toArray, List.set_cons_zero, List.set_cons_succ]
      refine Ht.takeN (i := 21) ⟨some 36, _, _, _, _, _⟩ (undef) rfl (Nat.le_refl 43) (by kernel_rfl) (by kernel_rfl) (by kernel_rfl) (by kernel_rfl) hS0 (Or.inr ⟨by rfl, rfl⟩) ?_
      simp only [Act.put, List.setIfInBounds_toArray, List.set_cons_zero, List.set_cons_succ]
      refine Ht.takeN (i := 22) ⟨some 37, _, _, _, _, _⟩ (.bool true) rfl (Nat.le_refl 43) (by kernel_rfl) (by kernel_rfl) (by kernel_rfl) (by kernel_rfl) hS0 (Or.inl ⟨by rfl, by (intro X hX; go_simp)⟩) ?_
      simp only [Act.put, List.setIfInBounds_toArray, List.set_cons_zero, List.set_cons_succ]
      refine Ht.takeN (i := 23) ⟨some 38, _, _, _, _, _⟩ (.bool true) rfl (Nat.le_refl 43) (by kernel_rfl) (by kernel_rfl) (by kernel_rfl) (by kernel_rfl) hS0 (Or.inl ⟨by rfl, by (intro X hX; go_simp)⟩) ?_
      simp only [Act.put, List.setIfInBounds_toArray, List.set_cons_zero, List.set_cons_succ]
      refine Ht.takeN (i := 24) ⟨some 39, _, _, _, _, _⟩ (undef) rfl (Nat.le_refl 43) (by kernel_rfl) (by kernel_rfl) (by kernel_rfl) (by kernel_rfl) hS0 (Or.inr ⟨by rfl, rfl⟩) ?_
      simp only [Act.put, List.setIfInBounds_toArray, List.set_cons_zero, List.set_cons_succ]
      refine Ht.takeN (i := 25) ⟨some 40, _, _, _, _, _⟩ (undef) rfl (Nat.le_refl 43) (by kernel_rfl) (by kernel_rfl) (by kernel_rfl) (by kernel_rfl) hS0 (Or.inr ⟨by rfl, rfl⟩) ?_
      simp only [Act.put, List.setIfInBounds_toArray, List.set_cons_zero, List.set_cons_succ]
      refine Ht.takeN (i := 26) ⟨some 41, _, _, _, _, _⟩ (undef) rfl (Nat.le_refl 43) (by kernel_rfl) (by kernel_rfl) (by kernel_rfl) (by kernel_rfl) hS0 (Or.inr ⟨by rfl, rfl⟩) ?_
      simp only [Act.put, List.setIfInBounds_toArray, List.set_cons_zero, List.set_cons_succ]
      refine Ht.takeN (i := 27) ⟨some 42, _, _, _, _, _⟩ (.bool true) rfl (Nat.le_refl 43) (by kernel_rfl) (by kernel_rfl) (by kernel_rfl) (by kernel_rfl) hS0 (Or.inl ⟨by rfl, by (intro X hX; go_simp)⟩) ?_
      simp only [Act.put, List.setIfInBounds_toArray, List.set_cons_zero, List.set_cons_succ]
      refine Ht.takeN (i := 28) ⟨some 43, _, _, _, _, _⟩ (.bool true) rfl (Nat.le_refl 43) (by kernel_rfl) (by kernel_rfl) (by kernel_rfl) (by kernel_rfl) hS0 (Or.inl ⟨by rfl, by (intro X hX; go_simp)⟩) ?_
      simp only [Act.put, List.setIfInBounds_toArray, List.set_cons_zero, List.set_cons_succ]
      refine Ht.takeN (i := 29) ⟨some 44, _, _, _, _, _⟩ (undef) rfl (Nat.le_refl 43) (by kernel_rfl) (by kernel_rfl) (by kernel_rfl) (by kernel_rfl) hS0 (Or.inr ⟨by rfl, rfl⟩) ?_
      simp only [Act.put, List.setIfInBounds_toArray, List.set_cons_zero, List.set_cons_succ]
      refine Ht.takeN (i := 30) ⟨some 45, _, _, _, _, _⟩ (undef) rfl (Nat.le_refl 43) (by kernel_rfl) (by kernel_rfl) (by kernel_rfl) (by kernel_rfl) hS0 (Or.inr ⟨by rfl, rfl⟩) ?_
      simp only [Act.put, List.setIfInBounds_toArray, List.set_cons_zero, List.set_cons_succ]
      refine Ht.takeN (i := 31) ⟨some 46, _, _, _, _, _⟩ (undef) rfl (Nat.le_refl 43) (by kernel_rfl) (by kernel_rfl) (by kernel_rfl) (by kernel_rfl) hS0 (Or.inr ⟨by rfl, rfl⟩) ?_
      simp only [Act.put, List.setIfInBounds_toArray, List.set_cons_zero, List.set_cons_succ]
      refine Ht.takeN (i := 32) ⟨some 47, _, _, _, _, _⟩ (.bool true) rfl (Nat.le_refl 43) (by kernel_rfl) (by kernel_rfl) (by kernel_rfl) (by kernel_rfl) hS0 (Or.inl ⟨by rfl, by (intro X hX; go_simp)⟩) ?_
      simp only [Act.put, List.setIfInBounds_toArray, List.set_cons_zero, List.set_cons_succ]
      refine Ht.takeN (i := 33) ⟨some 48, _, _, _, _, _⟩ (.bool true) rfl (Nat.le_refl 43) (by kernel_rfl) (by kernel_rfl) (by kernel_rfl) (by kernel_rfl) hS0 (Or.inl ⟨by rfl, by (intro X hX; go_simp)⟩) ?_
      simp only [Act.put, List.setIfInBounds_toArray, List.set_cons_zero, List.set_cons_succ]
      refine Ht.takeN (i := 34) ⟨some 49, _, _, _, _, _⟩ (undef) rfl (Nat.le_refl 43) (by kernel_rfl) (by kernel_rfl) (by kernel_rfl) (by kernel_rfl) hS0 (Or.inr ⟨by rfl, rfl⟩) ?_
      simp only [Act.put, List.setIfInBounds_toArray, List.set_cons_zero, List.set_cons_succ]
      refine Ht.takeN (i := 35) ⟨some 50, _, _, _, _, _⟩ (undef) rfl (Nat.le_refl 43) (by kernel_rfl) (by kernel_rfl) (by kernel_rfl) (by kernel_rfl) hS0 (Or.inr ⟨by rfl, rfl⟩) ?_
      simp only [Act.put, List.setIfInBounds_toArray, List.set_cons_zero, List.set_cons_succ]
      refine Ht.takeN (i := 36) ⟨some 51, _, _, _, _, _⟩ (undef) rfl (Nat.le_refl 43) (by kernel_rfl) (by kernel_rfl) (by kernel_rfl) (by kernel_rfl) hS0 (Or.inr ⟨by rfl, rfl⟩) ?_
      simp only [Act.put, List.setIfInBounds_toArray, List.set_cons_zero, List.set_cons_succ]
      refine Ht.takeN (i := 37) ⟨some 52, _, _, _, _, _⟩ (.bool true) rfl (Nat.le_refl 43) (by kernel_rfl) (by kernel_rfl) (by kernel_rfl) (by kernel_rfl) hS0 (Or.inl ⟨by rfl, by (intro X hX; go_simp)⟩) ?_
      simp only [Act.put, List.setIfInBounds_toArray, List.set_cons_zero, List.set_cons_succ]
      refine Ht.takeN (i := 38) ⟨some 53, _, _, _, _, _⟩ (.bool true) rfl (Nat.le_refl 43) (by kernel_rfl) (by kernel_rfl) (by kernel_rfl) (by kernel_rfl) hS0 (Or.inl ⟨by rfl, by (intro X hX; go_simp)⟩) ?_
      simp only [Act.put, List.setIfInBounds_toArray, List.set_cons_zero, List.set_cons_succ]
      refine Ht.takeN (i := 39) ⟨some 54, _, _, _, _, _⟩ (undef) rfl (Nat.le_refl 43) (by kernel_rfl) (by kernel_rfl) (by kernel_rfl) (by kernel_rfl) hS0 (Or.inr ⟨by rfl, rfl⟩) ?_
      simp only [Act.put, List.setIfInBounds_toArray, List.set_cons_zero, List.set_cons_succ]
      refine Ht.takeN (i := 40) ⟨some 55, _, _, _, _, _⟩ (undef) rfl (Nat.le_refl 43) (by kernel_rfl) (by kernel_rfl) (by kernel_rfl) (by kernel_rfl) hS0 (Or.inr ⟨by rfl, rfl⟩) ?_
      simp only [Act.put, List.setIfInBounds_toArray, List.set_cons_zero, List.set_cons_succ]
      refine Ht.takeN (i := 41) ⟨some 56, _, _, _, _, _⟩ (undef) rfl (Nat.le_refl 43) (by kernel_rfl) (by kernel_rfl) (by kernel_rfl) (by kernel_rfl) hS0 (Or.inr ⟨by rfl, rfl⟩) ?_
      simp only [Act.put, List.setIfInBounds_toArray, List.set_cons_zero, List.set_cons_succ]
      refine Ht.takeN (i := 42) ⟨some 57, _, _, _, _, _⟩ (.bool true) rfl (Nat.le_refl 43) (by kernel_rfl) (by kernel_rfl) (by kernel_rfl) (by kernel_rfl) hS0 (Or.inl ⟨by rfl, by (intro X hX; go_simp)⟩) ?_
      simp only [Act.put, List.setIfInBounds_toArray, List.set_cons_zero, List.set_cons_succ]
      refine done (by kernel_rfl) ?_
      obtain rfl : B = false := HV.out.1 (by first | (intro g; omega) | (have := HV.out.2.2 (by omega); intro g; omega))
      clear HV
      go_wp2_with fail
      go_meet
      exact ⟨rfl, by assumption⟩
    have ba2 : decide (12 < mo) = false := decide_eq_false a2
    refine Ht.takeN (i := 6) ⟨some 21, _, _, _, _, _⟩ (.bool false) rfl (Nat.le_refl 43) (by kernel_rfl) (by kernel_rfl) (by kernel_rfl) (by kernel_rfl) hS0 (Or.inl ⟨by rfl, by (intro X hX; go_simp)⟩) ?_
    simp only [Act.put, List.setIfInBounds_toArray, List.set_cons_zero, List.set_cons_succ]
    refine Ht.takeN (i := 7) ⟨some 22, _, _, _, _, _⟩ (.bool false) rfl (Nat.le_refl 43) (by kernel_rfl) (by kernel_rfl) (by kernel_rfl) (by kernel_rfl) hS0 (Or.inl ⟨by rfl, by (intro X hX; go_simp)⟩) ?_
    simp only [Act.put, List.setIfInBounds_toArray, List.set_cons_zero, List.set_cons_succ]
    refine Ht.takeN (i := 8) ⟨some 23, _, _, _, _, _⟩ (.bool false) rfl (Nat.le_refl 43) (by kernel_rfl) (by kernel_rfl) (by kernel_rfl) (by kernel_rfl) hS0 (Or.inl ⟨by rfl, by (intro X hX; go_simp)⟩) ?_
    simp only [Act.put, List.setIfInBounds_toArray, List.set_cons_zero, List.set_cons_succ]
    refine Ht.takeN (i := 9) ⟨some 24, _, _, _, _, _⟩ (.pointer (some ⟨w.heap.size, 2, none⟩)) rfl (Nat.le_refl 43) (by kernel_rfl) (by kernel_rfl) (by kernel_rfl) (by kernel_rfl) hS0 (Or.inl ⟨by rfl, by (intro X hX; go_simp)⟩) ?_
    simp only [Act.put, List.setIfInBounds_toArray, List.set_cons_zero, List.set_cons_succ]
    refine Ht.takeN (i := 10) ⟨some 25, _, _, _, _, _⟩ (.int .i64 d) rfl (Nat.le_refl 43) (by kernel_rfl) (by kernel_rfl) (by kernel_rfl) (by kernel_rfl) hS0 (Or.inl ⟨by rfl, by (intro X hX; have h1 := (hX.cell (p := ⟨w.heap.size, 2, none⟩) HLT.out).trans c2; go_simp)⟩) ?_
    simp only [Act.put, List.setIfInBounds_toArray, List.set_cons_zero, List.set_cons_succ]
    by_cases a3 : d < 1
    · have ba3 : decide (d < 1) = true := decide_eq_true a3
      refine Ht.takeN (i := 11) ⟨some 26, _, _, _, _, _⟩ (.bool true) rfl (Nat.le_refl 43) (by kernel_rfl) (by kernel_rfl) (by kernel_rfl) (by kernel_rfl) hS0 (Or.inl ⟨by rfl, by (intro X hX; go_simp)⟩) ?_
      simp only [Act.put, List.setIfInBounds_toArray, List.set_cons_zero, List.set_cons_succ]
      refine Ht.takeN (i := 12) ⟨some 27, _, _, _, _, _⟩ (.bool true) rfl (Nat.le_refl 43) (by kernel_rfl) (by kernel_rfl) (by kernel_rfl) (by kernel_rfl) hS0 (Or.inl ⟨by rfl, by (intro X hX; go_simp)⟩) ?_
      simp only [Act.put, List.setIfInBounds_toArray, List.set_cons_zero, List.set_cons_succ]
      refine Ht.takeN (i := 13) ⟨some 28, _, _, _, _, _⟩ (.bool true) rfl (Nat.le_refl 43) (by kernel_rfl) (by kernel_rfl) (by kernel_rfl) (by kernel_rfl) hS0 (Or.inl ⟨by rfl, by (intro X hX; go_simp)⟩) ?_
      simp only [Act.put, List.setIfInBounds_toArray, List.set_cons_zero, List.set_cons_succ]
      refine Ht.takeN (i := 14) ⟨some 29, _, _, _, _, _⟩ (undef) rfl (Nat.le_refl 43) (by kernel_rfl) (by kernel_rfl) (by kernel_rfl) (by kernel_rfl) hS0 (Or.inr ⟨by rfl, rfl⟩) ?_
      simp only [Act.put, List.setIfInBounds_toArray, List.set_cons_zero, List.set_cons_succ]
      refine Ht.takeN (i := 15) ⟨some 30, _, _, _, _, _⟩ (undef) rfl (Nat.le_refl 43) (by kernel_rfl) (by kernel_rfl) (by kernel_rfl) (by kernel_rfl) hS0 (Or.inr ⟨by rfl, rfl⟩) ?_
      simp only [Act.put, List.setIfInBounds_toArray, List.set_cons_zero, List.set_cons_succ]
      refine Ht.takeN (i := 16) ⟨some 31, _, _, _, _, _⟩ (undef) rfl (Nat.le_refl 43) (by kernel_rfl) (by kernel_rfl) (by kernel_rfl) (by kernel_rfl) hS0 (Or.inr ⟨by rfl, rfl⟩) ?_
      simp only [Act.put, List.setIfInBounds_toArray, List.set_cons_zero, List.set_cons_succ]
      refine Ht.takeN (i := 17) ⟨some 32, _, _, _, _, _⟩ (undef) rfl (Nat.le_refl 43) (by kernel_rfl) (by kernel_rfl) (by kernel_rfl) (by kernel_rfl) hS0 (Or.inr ⟨by rfl, rfl⟩) ?_
      simp only [Act.put, List.setIfInBounds_toArray, List.set_cons_zero, List.set_cons_succ]
      refine Ht.takeN (i := 18) ⟨some 33, _, _, _, _, _⟩ (undef) rfl (Nat.le_refl 43) (by kernel_rfl) (by kernel_rfl) (by kernel_rfl) (by kernel_rfl) hS0 (Or.inr ⟨by rfl, rfl⟩) ?_
      simp only [Act.put, List.setIfInBounds_toArray, List.set_cons_zero, List.set_cons_succ]
      refine Ht.takeN (i := 19) ⟨some 34, _, _, _, _, _⟩ (undef) rfl (Nat.le_refl 43) (by kernel_rfl) (by kernel_rfl) (by kernel_rfl) (by kernel_rfl) hS0 (Or.inr ⟨by rfl, rfl⟩) ?_
      simp only [Act.put, List.setIfInBounds_toArray, List.set_cons_zero, List.set_cons_succ]
      refine Ht.takeN (i := 20) ⟨some 35, _, _, _, _, _⟩ (undef) rfl (Nat.le_refl 43) (by kernel_rfl) (by kernel_rfl) (by kernel_rfl) (by kernel_rfl) hS0 (Or.inr ⟨by rfl, rfl⟩) ?_
      simp only [Act.put, List.setIfInBounds_toArray, List.set_cons_zero, List.set_cons_succ]
      refine Ht.takeN (i := 21) ⟨some 36, _, _, _, _, _⟩ (undef) rfl (Nat.le_refl 43) (by kernel_rfl) (by kernel_rfl) (by kernel_rfl) (by kernel_rfl) hS0 (Or.inr ⟨by rfl, rfl⟩) ?_
      simp only [Act.put, List.setIfInBounds_toArray, List.set_cons_zero, List.set_cons_succ]
      refine Ht.takeN (i := 22) ⟨some 37, _, _, _, _, _⟩ (.bool true) rfl (Nat.le_refl 43) (by kernel_rfl) (by kernel_rfl) (by kernel_rfl) (by kernel_rfl) hS0 (Or.inl ⟨by rfl, by (intro X hX; go_simp)⟩) ?_
      simp only [Act.put, List.setIfInBounds_toArray, List.set_cons_zero, List.set_cons_succ]
      refine Ht.takeN (i := 23) ⟨some 38, _, _, _, _, _⟩ (.bool true) rfl (Nat.le_refl 43) (by kernel_rfl) (by kernel_rfl) (by kernel_rfl) (by kernel_rfl) hS0 (Or.inl ⟨by rfl, by (intro X hX; go_simp)⟩) ?_
      simp only [Act.put, List.setIfInBounds_toArray, List.set_cons_zero, List.set_cons_succ]
      refine Ht.takeN (i := 24) ⟨some 39, _, _, _, _, _⟩ (undef) rfl (Nat.le_refl 43) (by kernel_rfl) (by kernel_rfl) (by kernel_rfl) (by kernel_rfl) hS0 (Or.inr ⟨by rfl, rfl⟩) ?_
      simp only [Act.put, List.setIfInBounds_toArray, List.set_cons_zero, List.set_cons_succ]
      refine Ht.takeN (i := 25) ⟨some 40, _, _, _, _, _⟩ (undef) rfl (Nat.le_refl 43) (by kernel_rfl) (by kernel_rfl) (by kernel_rfl) (by kernel_rfl) hS0 (Or.inr ⟨by rfl, rfl⟩) ?_
      simp only [Act.put, List.setIfInBounds_toArray, List.set_cons_zero, List.set_cons_succ]
      refine Ht.takeN (i := 26) ⟨some 41, _, _, _, _, _⟩ (undef) rfl (Nat.le_refl 43) (by kernel_rfl) (by kernel_rfl) (by kernel_rfl) (by kernel_rfl) hS0 (Or.inr ⟨by rfl, rfl⟩) ?_
      simp only [Act.put, List.setIfInBounds_toArray, List.set_cons_zero, List.set_cons_succ]
      refine Ht.takeN (i := 27) ⟨some 42, _, _, _, _, _⟩ (.bool true) rfl (Nat.le_refl 43) (by kernel_rfl) (by kernel_rfl) (by kernel_rfl) (by kernel_rfl) hS0 (Or.inl ⟨by rfl, by (intro X hX; go_simp)⟩) ?_
      simp only [Act.put, List.setIfInBounds_toArray, List.set_cons_zero, List.set_cons_succ]
      refine Ht.takeN (i := 28) ⟨some 43, _, _, _, _, _⟩ (.bool true) rfl (Nat.le_refl 43) (by kernel_rfl) (by kernel_rfl) (by kernel_rfl) (by kernel_rfl) hS0 (Or.inl ⟨by rfl, by (intro X hX; go_simp)⟩) ?_
      simp only [Act.put, List.setIfInBounds_toArray, List.set_cons_zero, List.set_cons_succ]
      refine Ht.takeN (i := 29) ⟨some 44, _, _, _, _, _⟩ (undef) rfl (Nat.le_refl 43) (by kernel_rfl) (by kernel_rfl) (by kernel_rfl) (by kernel_rfl) hS0 (Or.inr ⟨by rfl, rfl⟩) ?_
      simp only [Act.put, List.setIfInBounds_toArray, List.set_cons_zero, List.set_cons_succ]
      refine Ht.takeN (i := 30) ⟨some 45, _, _, _, _, _⟩ (undef) rfl (Nat.le_refl 43) (by kernel_rfl) (by kernel_rfl) (by kernel_rfl) (by kernel_rfl) hS0 (Or.inr ⟨by rfl, rfl⟩) ?_
      simp only [Act.put, List.setIfInBounds_toArray, List.set_cons_zero, List.set_cons_succ]
      refine Ht.takeN (i := 31) ⟨some 46, _, _, _, _, _⟩ (undef) rfl (Nat.le_refl 43) (by kernel_rfl) (by kernel_rfl) (by kernel_rfl) (by kernel_rfl) hS0 (Or.inr ⟨by rfl, rfl⟩) ?_
      simp only [Act.put, List.setIfInBounds_toArray, List.set_cons_zero, List.set_cons_succ]
      refine Ht.takeN (i := 32) ⟨some 47, _, _, _, _, _⟩ (.bool true) rfl (Nat.le_refl 43) (by kernel_rfl) (by kernel_rfl) (by kernel_rfl) (by kernel_rfl) hS0 (Or.inl ⟨by rfl, by (intro X hX; go_simp)⟩) ?_
      simp only [Act.put, List.setIfInBounds_toArray, List.set_cons_zero, List.set_cons_succ]
      refine Ht.takeN (i := 33) ⟨some 48, _, _, _, _, _⟩ (.bool true) rfl (Nat.le_refl 43) (by kernel_rfl) (by kernel_rfl) (by kernel_rfl) (by kernel_rfl) hS0 (Or.inl ⟨by rfl, by (intro X hX; go_simp)⟩) ?_
      simp only [Act.put, List.setIfInBounds_toArray, List.set_cons_zero, List.set_cons_succ]
      refine Ht.takeN (i := 34) ⟨some 49, _, _, _, _, _⟩ (undef) rfl (Nat.le_refl 43) (by kernel_rfl) (by kernel_rfl) (by kernel_rfl) (by kernel_rfl) hS0 (Or.inr ⟨by rfl, rfl⟩) ?_
      simp only [Act.put, List.setIfInBounds_toArray, List.set_cons_zero, List.set_cons_succ]
      refine Ht.takeN (i := 35) ⟨some 50, _, _, _, _, _⟩ (undef) rfl (Nat.le_refl 43) (by kernel_rfl) (by kernel_rfl) (by kernel_rfl) (by kernel_rfl) hS0 (Or.inr ⟨by rfl, rfl⟩) ?_
      simp only [Act.put, List.setIfInBounds_toArray, List.set_cons_zero, List.set_cons_succ]
      refine Ht.takeN (i := 36) ⟨some 51, _, _, _, _, _⟩ (undef) rfl (Nat.le_refl 43) (by kernel_rfl) (by kernel_rfl) (by kernel_rfl) (by kernel_rfl) hS0 (Or.inr ⟨by rfl, rfl⟩) ?_
      simp only [Act.put, List.setIfInBounds_toArray, List.set_cons_zero, List.set_cons_succ]
      refine Ht.takeN (i := 37) ⟨some 52, _, _, _, _, _⟩ (.bool true) rfl (Nat.le_refl 43) (by kernel_rfl) (by kernel_rfl) (by kernel_rfl) (by kernel_rfl) hS0 (Or.inl ⟨by rfl, by (intro X hX; go_simp)⟩) ?_
      simp only [Act.put, List.setIfInBounds_toArray, List.set_cons_zero, List.set_cons_succ]
      refine Ht.takeN (i := 38) ⟨some 53, _, _, _, _, _⟩ (.bool true) rfl (Nat.le_refl 43) (by kernel_rfl) (by kernel_rfl) (by kernel_rfl) (by kernel_rfl) hS0 (Or.inl ⟨by rfl, by (intro X hX; go_simp)⟩) ?_
      simp only [Act.put, List.setIfInBounds_toArray, List.set_cons_zero, List.set_cons_succ]
      refine Ht.takeN (i := 39) ⟨some 54, _, _, _, _, _⟩ (undef) rfl (Nat.le_refl 43) (by kernel_rfl) (by kernel_rfl) (by kernel_rfl) (by kernel_rfl) hS0 (Or.inr ⟨by rfl, rfl⟩) ?_
      simp only [Act.put, List.setIfInBounds_toArray, List.set_cons_zero, List.set_cons_succ]
      refine Ht.takeN (i := 40) ⟨some 55, _, _, _, _, _⟩ (undef) rfl (Nat.le_refl 43) (by kernel_rfl) (by kernel_rfl) (by kernel_rfl) (by kernel_rfl) hS0 (Or.inr ⟨by rfl, rfl⟩) ?_
      simp only [Act.put, List.setIfInBounds_toArray, List.set_cons_zero, List.set_cons_succ]
      refine Ht.takeN (i := 41) ⟨some 56, _, _, _, _, _⟩ (undef) rfl (Nat.le_refl 43) (by kernel_rfl) (by kernel_rfl) (by kernel_rfl) (by kernel_rfl) hS0 (Or.inr ⟨by rfl, rfl⟩) ?_
      simp only [Act.put, List.setIfInBounds_toArray, List.set_cons_zero, List.set_cons_succ]
      refine Ht.takeN (i := 42) ⟨some 57, _, _, _, _, _⟩ (.bool true) rfl (Nat.le_refl 43) (by kernel_rfl) (by kernel_rfl) (by kernel_rfl) (by kernel_rfl) hS0 (Or.inl ⟨by rfl, by (intro X hX; go_simp)⟩) ?_
      simp only [Act.put, List.setIfInBounds_toArray, List.set_cons_zero, List.set_cons_succ]
      refine done (by kernel_rfl) ?_
      obtain rfl : B = false := HV.out.1 (by first | (intro g; omega) | (have := HV.out.2.2 (by omega); intro g; omega))
      clear HV
      go_wp2_with fail
      go_meet
      exact ⟨rfl, by assumption⟩
    have ba3 : decide (d < 1) = false := decide_eq_false a3
    refine Ht.takeN (i := 11) ⟨some 26, _, _, _, _, _⟩ (.bool false) rfl (Nat.le_refl 43) (by kernel_rfl) (by kernel_rfl) (by kernel_rfl) (by kernel_rfl) hS0 (Or.inl ⟨by rfl, by (intro X hX; go_simp)⟩) ?_
    simp only [Act.put, List.setIfInBounds_toArray, List.set_cons_zero, List.set_cons_succ]
    refine Ht.takeN (i := 12) ⟨some 27, _, _, _, _, _⟩ (.bool false) rfl (Nat.le_refl 43) (by kernel_rfl) (by kernel_rfl) (by kernel_rfl) (by kernel_rfl) hS0 (Or.inl ⟨by rfl, by (intro X hX; go_simp)⟩) ?_
    simp only [Act.put, List.setIfInBounds_toArray, List.set_cons_zero, List.set_cons_succ]
    refine Ht.takeN (i := 13) ⟨some 28, _, _, _, _, _⟩ (.bool false) rfl (Nat.le_refl 43) (by kernel_rfl) (by kernel_rfl) (by kernel_rfl) (by kernel_rfl) hS0 (Or.inl ⟨by rfl, by (intro X hX; go_simp)⟩) ?_
    simp only [Act.put, List.setIfInBounds_toArray, List.set_cons_zero, List.set_cons_succ]
    refine Ht.takeN (i := 14) ⟨some 29, _, _, _, _, _⟩ (.pointer (some ⟨w.heap.size, 2, none⟩)) rfl (Nat.le_refl 43) (by kernel_rfl) (by kernel_rfl) (by kernel_rfl) (by kernel_rfl) hS0 (Or.inl ⟨by rfl, by (intro X hX; go_simp)⟩) ?_
    simp only [Act.put, List.setIfInBounds_toArray, List.set_cons_zero, List.set_cons_succ]
    refine Ht.takeN (i := 15) ⟨some 30, _, _, _, _, _⟩ (.int .i64 d) rfl (Nat.le_refl 43) (by kernel_rfl) (by kernel_rfl) (by kernel_rfl) (by kernel_rfl) hS0 (Or.inl ⟨by rfl, by (intro X hX; have h1 := (hX.cell (p := ⟨w.heap.size, 2, none⟩) HLT.out).trans c2; go_simp)⟩) ?_
    simp only [Act.put, List.setIfInBounds_toArray, List.set_cons_zero, List.set_cons_succ]
    refine Ht.takeN (i := 16) ⟨some 31, _, _, _, _, _⟩ (.pointer (some ⟨w.heap.size, 0, none⟩)) rfl (Nat.le_refl 43) (by kernel_rfl) (by kernel_rfl) (by kernel_rfl) (by kernel_rfl) hS0 (Or.inl ⟨by rfl, by (intro X hX; go_simp)⟩) ?_
    simp only [Act.put, List.setIfInBounds_toArray, List.set_cons_zero, List.set_cons_succ]
    refine Ht.takeN (i := 17) ⟨some 32, _, _, _, _, _⟩ (.int .i64 y) rfl (Nat.le_refl 43) (by kernel_rfl) (by kernel_rfl) (by kernel_rfl) (by kernel_rfl) hS0 (Or.inl ⟨by rfl, by (intro X hX; have h1 := (hX.cell (p := ⟨w.heap.size, 0, none⟩) HLT.out).trans c0; go_simp)⟩) ?_
    simp only [Act.put, List.setIfInBounds_toArray, List.set_cons_zero, List.set_cons_succ]
    refine Ht.takeN (i := 18) ⟨some 33, _, _, _, _, _⟩ (.pointer (some ⟨w.heap.size, 1, none⟩)) rfl (Nat.le_refl 43) (by kernel_rfl) (by kernel_rfl) (by kernel_rfl) (by kernel_rfl) hS0 (Or.inl ⟨by rfl, by (intro X hX; go_simp)⟩) ?_
    simp only [Act.put, List.setIfInBounds_toArray, List.set_cons_zero, List.set_cons_succ]
    refine Ht.takeN (i := 19) ⟨some 34, _, _, _, _, _⟩ (.int .i64 mo) rfl (Nat.le_refl 43) (by kernel_rfl) (by kernel_rfl) (by kernel_rfl) (by kernel_rfl) hS0 (Or.inl ⟨by rfl, by (intro X hX; have h1 := (hX.cell (p := ⟨w.heap.size, 1, none⟩) HLT.out).trans c1; go_simp)⟩) ?_
    simp only [Act.put, List.setIfInBounds_toArray, List.set_cons_zero, List.set_cons_succ]
    refine Ht.step (i := 20) ⟨some 35, _, _, _, _, _⟩ rfl (by kernel_rfl) (by rfl) (fun K hK => ?_)
    refine Ht.enter 10 #[.int .i64 y, .int .i64 mo] (by have hen := fun args w => enters_of (P := Try.prog) Try.func10 (by kernel_rfl) rfl args w; go_simp) (HQ.out _) ?_
    rintro e Y1 ⟨rfl, hY1⟩
    have hS1 : Below w2.heap.size w2 Y1 := hS0.trans (hY1.mono hS0.size)
    clear hY1
    refine ⟨_, rfl, hK _ _ (fun _ => hS1) (fun _ => ?_)⟩
    clear hK K
    simp only [Act.put, List.setIfInBounds_toArray, List.set_cons_zero, List.set_cons_succ]
    by_cases a4 : L < d
    · have ba4 : decide (L < d) = true := decide_eq_true a4
      refine Ht.takeN (i := 21) ⟨some 36, _, _, _, _, _⟩ (.bool true) rfl (Nat.le_refl 43) (by kernel_rfl) (by kernel_rfl) (by kernel_rfl) (by kernel_rfl) hS1 (Or.inl ⟨by rfl, by (intro X hX; go_simp)⟩) ?_
      simp only [Act.put, List.setIfInBounds_toArray, List.set_cons_zero, List.set_cons_succ]
      refine Ht.takeN (i := 22) ⟨some 37, _, _, _, _, _⟩ (.bool true) rfl (Nat.le_refl 43) (by kernel_rfl) (by kernel_rfl) (by kernel_rfl) (by kernel_rfl) hS1 (Or.inl ⟨by rfl, by (intro X hX; go_simp)⟩) ?_
      simp only [Act.put, List.setIfInBounds_toArray, List.set_cons_zero, List.set_cons_succ]
      refine Ht.takeN (i := 23) ⟨some 38, _, _, _, _, _⟩ (.bool true) rfl (Nat.le_refl 43) (by kernel_rfl) (by kernel_rfl) (by kernel_rfl) (by kernel_rfl) hS1 (Or.inl ⟨by rfl, by (intro X hX; go_simp)⟩) ?_
      simp only [Act.put, List.setIfInBounds_toArray, List.set_cons_zero, List.set_cons_succ]
      refine Ht.takeN (i := 24) ⟨some 39, _, _, _, _, _⟩ (undef) rfl (Nat.le_refl 43) (by kernel_rfl) (by kernel_rfl) (by kernel_rfl) (by kernel_rfl) hS1 (Or.inr ⟨by rfl, rfl⟩) ?_
      simp only [Act.put, List.setIfInBounds_toArray, List.set_cons_zero, List.set_cons_succ]
      refine Ht.takeN (i := 25) ⟨some 40, _, _, _, _, _⟩ (undef) rfl (Nat.le_refl 43) (by kernel_rfl) (by kernel_rfl) (by kernel_rfl) (by kernel_rfl) hS1 (Or.inr ⟨by rfl, rfl⟩) ?_
      simp only [Act.put, List.setIfInBounds_toArray, List.set_cons_zero, List.set_cons_succ]
      refine Ht.takeN (i := 26) ⟨some 41, _, _, _, _, _⟩ (undef) rfl (Nat.le_refl 43) (by kernel_rfl) (by kernel_rfl) (by kernel_rfl) (by kernel_rfl) hS1 (Or.inr ⟨by rfl, rfl⟩) ?_
      simp only [Act.put, List.setIfInBounds_toArray, List.set_cons_zero, List.set_cons_succ]
      refine Ht.takeN (i := 27) ⟨some 42, _, _, _, _, _⟩ (.bool true) rfl (Nat.le_refl 43) (by kernel_rfl) (by kernel_rfl) (by kernel_rfl) (by kernel_rfl) hS1 (Or.inl ⟨by rfl, by (intro X hX; go_simp)⟩) ?_
      simp only [Act.put, List.setIfInBounds_toArray, List.set_cons_zero, List.set_cons_succ]
      refine Ht.takeN (i := 28) ⟨some 43, _, _, _, _, _⟩ (.bool true) rfl (Nat.le_refl 43) (by kernel_rfl) (by kernel_rfl) (by kernel_rfl) (by kernel_rfl) hS1 (Or.inl ⟨by rfl, by (intro X hX; go_simp)⟩) ?_
      simp only [Act.put, List.setIfInBounds_toArray, List.set_cons_zero, List.set_cons_succ]
      refine Ht.takeN (i := 29) ⟨some 44, _, _, _, _, _⟩ (undef) rfl (Nat.le_refl 43) (by kernel_rfl) (by kernel_rfl) (by kernel_rfl) (by kernel_rfl) hS1 (Or.inr ⟨by rfl, rfl⟩) ?_
      simp only [Act.put, List.setIfInBounds_toArray, List.set_cons_zero, List.set_cons_succ]
      refine Ht.takeN (i := 30) ⟨some 45, _, _, _, _, _⟩ (undef) rfl (Nat.le_refl 43) (by kernel_rfl) (by kernel_rfl) (by kernel_rfl) (by kernel_rfl) hS1 (Or.inr ⟨by rfl, rfl⟩) ?_
      simp only [Act.put, List.setIfInBounds_toArray, List.set_cons_zero, List.set_cons_succ]
      refine Ht.takeN (i := 31) ⟨some 46, _, _, _, _, _⟩ (undef) rfl (Nat.le_refl 43) (by kernel_rfl) (by kernel_rfl) (by kernel_rfl) (by kernel_rfl) hS1 (Or.inr ⟨by rfl, rfl⟩) ?_
      simp only [Act.put, List.setIfInBounds_toArray, List.set_cons_zero, List.set_cons_succ]
      refine Ht.takeN (i := 32) ⟨some 47, _, _, _, _, _⟩ (.bool true) rfl (Nat.le_refl 43) (by kernel_rfl) (by kernel_rfl) (by kernel_rfl) (by kernel_rfl) hS1 (Or.inl ⟨by rfl, by (intro X hX; go_simp)⟩) ?_
      simp only [Act.put, List.setIfInBounds_toArray, List.set_cons_zero, List.set_cons_succ]
      refine Ht.takeN (i := 33) ⟨some 48, _, _, _, _, _⟩ (.bool true) rfl (Nat.le_refl 43) (by kernel_rfl) (by kernel_rfl) (by kernel_rfl) (by kernel_rfl) hS1 (Or.inl ⟨by rfl, by (intro X hX; go_simp)⟩) ?_
      simp only [Act.put, List.setIfInBounds_toArray, List.set_cons_zero, List.set_cons_succ]
      refine Ht.takeN (i := 34) ⟨some 49, _, _, _, _, _⟩ (undef) rfl (Nat.le_refl 43) (by kernel_rfl) (by kernel_rfl) (by kernel_rfl) (by kernel_rfl) hS1 (Or.inr ⟨by rfl, rfl⟩) ?_
      simp only [Act.put, List.setIfInBounds_toArray, List.set_cons_zero, List.set_cons_succ]
      refine Ht.takeN (i := 35) ⟨some 50, _, _, _, _, _⟩ (undef) rfl (Nat.le_refl 43) (by kernel_rfl) (by kernel_rfl) (by kernel_rfl) (by kernel_rfl) hS1 (Or.inr ⟨by rfl, rfl⟩) ?_
      simp only [Act.put, List.setIfInBounds_toArray, List.set_cons_zero, List.set_cons_succ]
      refine Ht.takeN (i := 36) ⟨some 51, _, _, _, _, _⟩ (undef) rfl (Nat.le_refl 43) (by kernel_rfl) (by kernel_rfl) (by kernel_rfl) (by kernel_rfl) hS1 (Or.inr ⟨by rfl, rfl⟩) ?_
      simp only [Act.put, List.setIfInBounds_toArray, List.set_cons_zero, List.set_cons_succ]
      refine Ht.takeN (i := 37) ⟨some 52, _, _, _, _, _⟩ (.bool true) rfl (Nat.le_refl 43) (by kernel_rfl) (by kernel_rfl) (by kernel_rfl) (by kernel_rfl) hS1 (Or.inl ⟨by rfl, by (intro X hX; go_simp)⟩) ?_
      simp only [Act.put, List.setIfInBounds_toArray, List.set_cons_zero, List.set_cons_succ]
      refine Ht.takeN (i := 38) ⟨some 53, _, _, _, _, _⟩ (.bool true) rfl (Nat.le_refl 43) (by kernel_rfl) (by kernel_rfl) (by kernel_rfl) (by kernel_rfl) hS1 (Or.inl ⟨by rfl, by (intro X hX; go_simp)⟩) ?_
      simp only [Act.put, List.setIfInBounds_toArray, List.set_cons_zero, List.set_cons_succ]
      refine Ht.takeN (i := 39) ⟨some 54, _, _, _, _, _⟩ (undef) rfl (Nat.le_refl 43) (by kernel_rfl) (by kernel_rfl) (by kernel_rfl) (by kernel_rfl) hS1 (Or.inr ⟨by rfl, rfl⟩) ?_
      simp only [Act.put, List.setIfInBounds_toArray, List.set_cons_zero, List.set_cons_succ]
      refine Ht.takeN (i := 40) ⟨some 55, _, _, _, _, _⟩ (undef) rfl (Nat.le_refl 43) (by kernel_rfl) (by kernel_rfl) (by kernel_rfl) (by kernel_rfl) hS1 (Or.inr ⟨by rfl, rfl⟩) ?_
      simp only [Act.put, List.setIfInBounds_toArray, List.set_cons_zero, List.set_cons_succ]
      refine Ht.takeN (i := 41) ⟨some 56, _, _, _, _, _⟩ (undef) rfl (Nat.le_refl 43) (by kernel_rfl) (by kernel_rfl) (by kernel_rfl) (by kernel_rfl) hS1 (Or.inr ⟨by rfl, rfl⟩) ?_
      simp only [Act.put, List.setIfInBounds_toArray, List.set_cons_zero, List.set_cons_succ]
      refine Ht.takeN (i := 42) ⟨some 57, _, _, _, _, _⟩ (.bool true) rfl (Nat.le_refl 43) (by kernel_rfl) (by kernel_rfl) (by kernel_rfl) (by kernel_rfl) hS1 (Or.inl ⟨by rfl, by (intro X hX; go_simp)⟩) ?_
      simp only [Act.put, List.setIfInBounds_toArray, List.set_cons_zero, List.set_cons_succ]
      refine done (by kernel_rfl) ?_
      obtain rfl : B = false := HV.out.1 (by first | (intro g; omega) | (have := HV.out.2.2 (by omega); intro g; omega))
      clear HV
      go_wp2_with fail
      go_meet
      exact ⟨rfl, by assumption⟩
    have ba4 : decide (L < d) = false := decide_eq_false a4
    refine Ht.takeN (i := 21) ⟨some 36, _, _, _, _, _⟩ (.bool false) rfl (Nat.le_refl 43) (by kernel_rfl) (by kernel_rfl) (by kernel_rfl) (by kernel_rfl) hS1 (Or.inl ⟨by rfl, by (intro X hX; go_simp)⟩) ?_
    simp only [Act.put, List.setIfInBounds_toArray, List.set_cons_zero, List.set_cons_succ]
    refine Ht.takeN (i := 22) ⟨some 37, _, _, _, _, _⟩ (.bool false) rfl (Nat.le_refl 43) (by kernel_rfl) (by kernel_rfl) (by kernel_rfl) (by kernel_rfl) hS1 (Or.inl ⟨by rfl, by (intro X hX; go_simp)⟩) ?_
    simp only [Act.put, List.setIfInBounds_toArray, List.set_cons_zero, List.set_cons_succ]
    refine Ht.takeN (i := 23) ⟨some 38, _, _, _, _, _⟩ (.bool false) rfl (Nat.le_refl 43) (by kernel_rfl) (by kernel_rfl) (by kernel_rfl) (by kernel_rfl) hS1 (Or.inl ⟨by rfl, by (intro X hX; go_simp)⟩) ?_
    simp only [Act.put, List.setIfInBounds_toArray, List.set_cons_zero, List.set_cons_succ]
    refine Ht.takeN (i := 24) ⟨some 39, _, _, _, _, _⟩ (.pointer (some ⟨w.heap.size, 4, none⟩)) rfl (Nat.le_refl 43) (by kernel_rfl) (by kernel_rfl) (by kernel_rfl) (by kernel_rfl) hS1 (Or.inl ⟨by rfl, by (intro X hX; go_simp)⟩) ?_
    simp only [Act.put, List.setIfInBounds_toArray, List.set_cons_zero, List.set_cons_succ]
    refine Ht.takeN (i := 25) ⟨some 40, _, _, _, _, _⟩ (.int .i64 h) rfl (Nat.le_refl 43) (by kernel_rfl) (by kernel_rfl) (by kernel_rfl) (by kernel_rfl) hS1 (Or.inl ⟨by rfl, by (intro X hX; have h1 := (hX.cell (p := ⟨w.heap.size, 4, none⟩) HLT.out).trans c4; go_simp)⟩) ?_
    simp only [Act.put, List.setIfInBounds_toArray, List.set_cons_zero, List.set_cons_succ]
    by_cases a5 : h < 0
    · have ba5 : decide (h < 0) = true := decide_eq_true a5
      refine Ht.takeN (i := 26) ⟨some 41, _, _, _, _, _⟩ (.bool true) rfl (Nat.le_refl 43) (by kernel_rfl) (by kernel_rfl) (by kernel_rfl) (by kernel_rfl) hS1 (Or.inl ⟨by rfl, by (intro X hX; go_simp)⟩) ?_
      simp only [Act.put, List.setIfInBounds_toArray, List.set_cons_zero, List.set_cons_succ]
      refine Ht.takeN (i := 27) ⟨some 42, _, _, _, _, _⟩ (.bool true) rfl (Nat.le_refl 43) (by kernel_rfl) (by kernel_rfl) (by kernel_rfl) (by kernel_rfl) hS1 (Or.inl ⟨by rfl, by (intro X hX; go_simp)⟩) ?_
      simp only [Act.put, List.setIfInBounds_toArray, List.set_cons_zero, List.set_cons_succ]
      refine Ht.takeN (i := 28) ⟨some 43, _, _, _, _, _⟩ (.bool true) rfl (Nat.le_refl 43) (by kernel_rfl) (by kernel_rfl) (by kernel_rfl) (by kernel_rfl) hS1 (Or.inl ⟨by rfl, by (intro X hX; go_simp)⟩) ?_
      simp only [Act.put, List.setIfInBounds_toArray, List.set_cons_zero, List.set_cons_succ]
      refine Ht.takeN (i := 29) ⟨some 44, _, _, _, _, _⟩ (undef) rfl (Nat.le_refl 43) (by kernel_rfl) (by kernel_rfl) (by kernel_rfl) (by kernel_rfl) hS1 (Or.inr ⟨by rfl, rfl⟩) ?_
      simp only [Act.put, List.setIfInBounds_toArray, List.set_cons_zero, List.set_cons_succ]
      refine Ht.takeN (i := 30) ⟨some 45, _, _, _, _, _⟩ (undef) rfl (Nat.le_refl 43) (by kernel_rfl) (by kernel_rfl) (by kernel_rfl) (by kernel_rfl) hS1 (Or.inr ⟨by rfl, rfl⟩) ?_
      simp only [Act.put, List.setIfInBounds_toArray, List.set_cons_zero, List.set_cons_succ]
      refine Ht.takeN (i := 31) ⟨some 46, _, _, _, _, _⟩ (undef) rfl (Nat.le_refl 43) (by kernel_rfl) (by kernel_rfl) (by kernel_rfl) (by kernel_rfl) hS1 (Or.inr ⟨by rfl, rfl⟩) ?_
      simp only [Act.put, List.setIfInBounds_toArray, List.set_cons_zero, List.set_cons_succ]
      refine Ht.takeN (i := 32) ⟨some 47, _, _, _, _, _⟩ (.bool true) rfl (Nat.le_refl 43) (by kernel_rfl) (by kernel_rfl) (by kernel_rfl) (by kernel_rfl) hS1 (Or.inl ⟨by rfl, by (intro X hX; go_simp)⟩) ?_
      simp only [Act.put, List.setIfInBounds_toArray, List.set_cons_zero, List.set_cons_succ]
      refine Ht.takeN (i := 33) ⟨some 48, _, _, _, _, _⟩ (.bool true) rfl (Nat.le_refl 43) (by kernel_rfl) (by kernel_rfl) (by kernel_rfl) (by kernel_rfl) hS1 (Or.inl ⟨by rfl, by (intro X hX; go_simp)⟩) ?_
      simp only [Act.put, List.setIfInBounds_toArray, List.set_cons_zero, List.set_cons_succ]
      refine Ht.takeN (i := 34) ⟨some 49, _, _, _, _, _⟩ (undef) rfl (Nat.le_refl 43) (by kernel_rfl) (by kernel_rfl) (by kernel_rfl) (by kernel_rfl) hS1 (Or.inr ⟨by rfl, rfl⟩) ?_
      simp only [Act.put, List.setIfInBounds_toArray, List.set_cons_zero, List.set_cons_succ]
      refine Ht.takeN (i := 35) ⟨some 50, _, _, _, _, _⟩ (undef) rfl (Nat.le_refl 43) (by kernel_rfl) (by kernel_rfl) (by kernel_rfl) (by kernel_rfl) hS1 (Or.inr ⟨by rfl, rfl⟩) ?_
      simp only [Act.put, List.setIfInBounds_toArray, List.set_cons_zero, List.set_cons_succ]
      refine Ht.takeN (i := 36) ⟨some 51, _, _, _, _, _⟩ (undef) rfl (Nat.le_refl 43) (by kernel_rfl) (by kernel_rfl) (by kernel_rfl) (by kernel_rfl) hS1 (Or.inr ⟨by rfl, rfl⟩) ?_
      simp only [Act.put, List.setIfInBounds_toArray, List.set_cons_zero, List.set_cons_succ]
      refine Ht.takeN (i := 37) ⟨some 52, _, _, _, _, _⟩ (.bool true) rfl (Nat.le_refl 43) (by kernel_rfl) (by kernel_rfl) (by kernel_rfl) (by kernel_rfl) hS1 (Or.inl ⟨by rfl, by (intro X hX; go_simp)⟩) ?_
      simp only [Act.put, List.setIfInBounds_toArray, List.set_cons_zero, List.set_cons_succ]
      refine Ht.takeN (i := 38) ⟨some 53, _, _, _, _, _⟩ (.bool true) rfl (Nat.le_refl 43) (by kernel_rfl) (by kernel_rfl) (by kernel_rfl) (by kernel_rfl) hS1 (Or.inl ⟨by rfl, by (intro X hX; go_simp)⟩) ?_
      simp only [Act.put, List.setIfInBounds_toArray, List.set_cons_zero, List.set_cons_succ]
      refine Ht.takeN (i := 39) ⟨some 54, _, _, _, _, _⟩ (undef) rfl (Nat.le_refl 43) (by kernel_rfl) (by kernel_rfl) (by kernel_rfl) (by kernel_rfl) hS1 (Or.inr ⟨by rfl, rfl⟩) ?_
      simp only [Act.put, List.setIfInBounds_toArray, List.set_cons_zero, List.set_cons_succ]
      refine Ht.takeN (i := 40) ⟨some 55, _, _, _, _, _⟩ (undef) rfl (Nat.le_refl 43) (by kernel_rfl) (by kernel_rfl) (by kernel_rfl) (by kernel_rfl) hS1 (Or.inr ⟨by rfl, rfl⟩) ?_
      simp only [Act.put, List.setIfInBounds_toArray, List.set_cons_zero, List.set_cons_succ]
      refine Ht.takeN (i := 41) ⟨some 56, _, _, _, _, _⟩ (undef) rfl (Nat.le_refl 43) (by kernel_rfl) (by kernel_rfl) (by kernel_rfl) (by kernel_rfl) hS1 (Or.inr ⟨by rfl, rfl⟩) ?_
      simp only [Act.put, List.setIfInBounds_toArray, List.set_cons_zero, List.set_cons_succ]
      refine Ht.takeN (i := 42) ⟨some 57, _, _, _, _, _⟩ (.bool true) rfl (Nat.le_refl 43) (by kernel_rfl) (by kernel_rfl) (by kernel_rfl) (by kernel_rfl) hS1 (Or.inl ⟨by rfl, by (intro X hX; go_simp)⟩) ?_
      simp only [Act.put, List.setIfInBounds_toArray, List.set_cons_zero, List.set_cons_succ]
      refine done (by kernel_rfl) ?_
      obtain rfl : B = false := HV.out.1 (by first | (intro g; omega) | (have := HV.out.2.2 (by omega); intro g; omega))
      clear HV
      go_wp2_with fail
      go_meet
      exact ⟨rfl, by assumption⟩
    have ba5 : decide (h < 0) = false := decide_eq_false a5
    refine Ht.takeN (i := 26) ⟨some 41, _, _, _, _, _⟩ (.bool false) rfl (Nat.le_refl 43) (by kernel_rfl) (by kernel_rfl) (by kernel_rfl) (by kernel_rfl) hS1 (Or.inl ⟨by rfl, by (intro X hX; go_simp)⟩) ?_
    simp only [Act.put, List.setIfInBounds_toArray, List.set_cons_zero, List.set_cons_succ]
    refine Ht.takeN (i := 27) ⟨some 42, _, _, _, _, _⟩ (.bool false) rfl (Nat.le_refl 43) (by kernel_rfl) (by kernel_rfl) (by kernel_rfl) (by kernel_rfl) hS1 (Or.inl ⟨by rfl, by (intro X hX; go_simp)⟩) ?_
    simp only [Act.put, List.setIfInBounds_toArray, List.set_cons_zero, List.set_cons_succ]
    refine Ht.takeN (i := 28) ⟨some 43, _, _, _, _, _⟩ (.bool false) rfl (Nat.le_refl 43) (by kernel_rfl) (by kernel_rfl) (by kernel_rfl) (by kernel_rfl) hS1 (Or.inl ⟨by rfl, by (intro X hX; go_simp)⟩) ?_
    simp only [Act.put, List.setIfInBounds_toArray, List.set_cons_zero, List.set_cons_succ]
    refine Ht.takeN (i := 29) ⟨some 44, _, _, _, _, _⟩ (.pointer (some ⟨w.heap.size, 4, none⟩)) rfl (Nat.le_refl 43) (by kernel_rfl) (by kernel_rfl) (by kernel_rfl) (by kernel_rfl) hS1 (Or.inl ⟨by rfl, by (intro X hX; go_simp)⟩) ?_
    simp only [Act.put, List.setIfInBounds_toArray, List.set_cons_zero, List.set_cons_succ]
    refine Ht.takeN (i := 30) ⟨some 45, _, _, _, _, _⟩ (.int .i64 h) rfl (Nat.le_refl 43) (by kernel_rfl) (by kernel_rfl) (by kernel_rfl) (by kernel_rfl) hS1 (Or.inl ⟨by rfl, by (intro X hX; have h1 := (hX.cell (p := ⟨w.heap.size, 4, none⟩) HLT.out).trans c4; go_simp)⟩) ?_
    simp only [Act.put, List.setIfInBounds_toArray, List.set_cons_zero, List.set_cons_succ]
    by_cases a6 : 23 < h
    · have ba6 : decide (23 < h) = true := decide_eq_true a6
      refine Ht.takeN (i := 31) ⟨some 46, _, _, _, _, _⟩ (.bool true) rfl (Nat.le_refl 43) (by kernel_rfl) (by kernel_rfl) (by kernel_rfl) (by kernel_rfl) hS1 (Or.inl ⟨by rfl, by (intro X hX; go_simp)⟩) ?_
      simp only [Act.put, List.setIfInBounds_toArray, List.set_cons_zero, List.set_cons_succ]
      refine Ht.takeN (i := 32) ⟨some 47, _, _, _, _, _⟩ (.bool true) rfl (Nat.le_refl 43) (by kernel_rfl) (by kernel_rfl) (by kernel_rfl) (by kernel_rfl) hS1 (Or.inl ⟨by rfl, by (intro X hX; go_simp)⟩) ?_
      simp only [Act.put, List.setIfInBounds_toArray, List.set_cons_zero, List.set_cons_succ]
      refine Ht.takeN (i := 33) ⟨some 48, _, _, _, _, _⟩ (.bool true) rfl (Nat.le_refl 43) (by kernel_rfl) (by kernel_rfl) (by kernel_rfl) (by kernel_rfl) hS1 (Or.inl ⟨by rfl, by (intro X hX; go_simp)⟩) ?_
      simp only [Act.put, List.setIfInBounds_toArray, List.set_cons_zero, List.set_cons_succ]
      refine Ht.takeN (i := 34) ⟨some 49, _, _, _, _, _⟩ (undef) rfl (Nat.le_refl 43) (by kernel_rfl) (by kernel_rfl) (by kernel_rfl) (by kernel_rfl) hS1 (Or.inr ⟨by rfl, rfl⟩) ?_
      simp only [Act.put, List.setIfInBounds_toArray, List.set_cons_zero, List.set_cons_succ]
      refine Ht.takeN (i := 35) ⟨some 50, _, _, _, _, _⟩ (undef) rfl (Nat.le_refl 43) (by kernel_rfl) (by kernel_rfl) (by kernel_rfl) (by kernel_rfl) hS1 (Or.inr ⟨by rfl, rfl⟩) ?_
      simp only [Act.put, List.setIfInBounds_toArray, List.set_cons_zero, List.set_cons_succ]
      refine Ht.takeN (i := 36) ⟨some 51, _, _, _, _, _⟩ (undef) rfl (Nat.le_refl 43) (by kernel_rfl) (by kernel_rfl) (by kernel_rfl) (by kernel_rfl) hS1 (Or.inr ⟨by rfl, rfl⟩) ?_
      simp only [Act.put, List.setIfInBounds_toArray, List.set_cons_zero, List.set_cons_succ]
      refine Ht.takeN (i := 37) ⟨some 52, _, _, _, _, _⟩ (.bool true) rfl (Nat.le_refl 43) (by kernel_rfl) (by kernel_rfl) (by kernel_rfl) (by kernel_rfl) hS1 (Or.inl ⟨by rfl, by (intro X hX; go_simp)⟩) ?_
      simp only [Act.put, List.setIfInBounds_toArray, List.set_cons_zero, List.set_cons_succ]
      refine Ht.takeN (i := 38) ⟨some 53, _, _, _, _, _⟩ (.bool true) rfl (Nat.le_refl 43) (by kernel_rfl) (by kernel_rfl) (by kernel_rfl) (by kernel_rfl) hS1 (Or.inl ⟨by rfl, by (intro X hX; go_simp)⟩) ?_
      simp only [Act.put, List.setIfInBounds_toArray, List.set_cons_zero, List.set_cons_succ]
      refine Ht.takeN (i := 39) ⟨some 54, _, _, _, _, _⟩ (undef) rfl (Nat.le_refl 43) (by kernel_rfl) (by kernel_rfl) (by kernel_rfl) (by kernel_rfl) hS1 (Or.inr ⟨by rfl, rfl⟩) ?_
      simp only [Act.put, List.setIfInBounds_toArray, List.set_cons_zero, List.set_cons_succ]
      refine Ht.takeN (i := 40) ⟨some 55, _, _, _, _, _⟩ (undef) rfl (Nat.le_refl 43) (by kernel_rfl) (by kernel_rfl) (by kernel_rfl) (by kernel_rfl) hS1 (Or.inr ⟨by rfl, rfl⟩) ?_
      simp only [Act.put, List.setIfInBounds_toArray, List.set_cons_zero, List.set_cons_succ]
      refine Ht.takeN (i := 41) ⟨some 56, _, _, _, _, _⟩ (undef) rfl (Nat.le_refl 43) (by kernel_rfl) (by kernel_rfl) (by kernel_rfl) (by kernel_rfl) hS1 (Or.inr ⟨by rfl, rfl⟩) ?_
      simp only [Act.put, List.setIfInBounds_toArray, List.set_cons_zero, List.set_cons_succ]
      refine Ht.takeN (i := 42) ⟨some 57, _, _, _, _, _⟩ (.bool true) rfl (Nat.le_refl 43) (by kernel_rfl) (by kernel_rfl) (by kernel_rfl) (by kernel_rfl) hS1 (Or.inl ⟨by rfl, by (intro X hX; go_simp)⟩) ?_
      simp only [Act.put, List.setIfInBounds_toArray, List.set_cons_zero, List.set_cons_succ]
      refine done (by kernel_rfl) ?_
      obtain rfl : B = false := HV.out.1 (by first | (intro g; omega) | (have := HV.out.2.2 (by omega); intro g; omega))
      clear HV
      go_wp2_with fail
      go_meet
      exact ⟨rfl, by assumption⟩
    have ba6 : decide (23 < h) = false := decide_eq_false a6
    refine Ht.takeN (i := 31) ⟨some 46, _, _, _, _, _⟩ (.bool false) rfl (Nat.le_refl 43) (by kernel_rfl) (by kernel_rfl) (by kernel_rfl) (by kernel_rfl) hS1 (Or.inl ⟨by rfl, by (intro X hX; go_simp)⟩) ?_
    simp only [Act.put, List.setIfInBounds_toArray, List.set_cons_zero, List.set_cons_succ]
    refine Ht.takeN (i := 32) ⟨some 47, _, _, _, _, _⟩ (.bool false) rfl (Nat.le_refl 43) (by kernel_rfl) (by kernel_rfl) (by kernel_rfl) (by kernel_rfl) hS1 (Or.inl ⟨by rfl, by (intro X hX; go_simp)⟩) ?_
    simp only [Act.put, List.setIfInBounds_toArray, List.set_cons_zero, List.set_cons_succ]
    refine Ht.takeN (i := 33) ⟨some 48, _, _, _, _, _⟩ (.bool false) rfl (Nat.le_refl 43) (by kernel_rfl) (by kernel_rfl) (by kernel_rfl) (by kernel_rfl) hS1 (Or.inl ⟨by rfl, by (intro X hX; go_simp)⟩) ?_
    simp only [Act.put, List.setIfInBounds_toArray, List.set_cons_zero, List.set_cons_succ]
    refine Ht.takeN (i := 34) ⟨some 49, _, _, _, _, _⟩ (.pointer (some ⟨w.heap.size, 5, none⟩)) rfl (Nat.le_refl 43) (by kernel_rfl) (by kernel_rfl) (by kernel_rfl) (by kernel_rfl) hS1 (Or.inl ⟨by rfl, by (intro X hX; go_simp)⟩) ?_
    simp only [Act.put, List.setIfInBounds_toArray, List.set_cons_zero, List.set_cons_succ]
    refine Ht.takeN (i := 35) ⟨some 50, _, _, _, _, _⟩ (.int .i64 mi) rfl (Nat.le_refl 43) (by kernel_rfl) (by kernel_rfl) (by kernel_rfl) (by kernel_rfl) hS1 (Or.inl ⟨by rfl, by (intro X hX; have h1 := (hX.cell (p := ⟨w.heap.size, 5, none⟩) HLT.out).trans c5; go_simp)⟩) ?_
    simp only [Act.put, List.setIfInBounds_toArray, List.set_cons_zero, List.set_cons_succ]
    by_cases a7 : mi < 0
    · have ba7 : decide (mi < 0) = true := decide_eq_true a7
      refine Ht.takeN (i := 36) ⟨some 51, _, _, _, _, _⟩ (.bool true) rfl (Nat.le_refl 43) (by kernel_rfl) (by kernel_rfl) (by kernel_rfl) (by kernel_rfl) hS1 (Or.inl ⟨by rfl, by (intro X hX; go_simp)⟩) ?_
      simp only [Act.put, List.setIfInBounds_toArray, List.set_cons_zero, List.set_cons_succ]
      refine Ht.takeN (i := 37) ⟨some 52, _, _, _, _, _⟩ (.bool true) rfl (Nat.le_refl 43) (by kernel_rfl) (by kernel_rfl) (by kernel_rfl) (by kernel_rfl) hS1 (Or.inl ⟨by rfl, by (intro X hX; go_simp)⟩) ?_
      simp only [Act.put, List.setIfInBounds_toArray, List.set_cons_zero, List.set_cons_succ]
      refine Ht.takeN (i := 38) ⟨some 53, _, _, _, _, _⟩ (.bool true) rfl (Nat.le_refl 43) (by kernel_rfl) (by kernel_rfl) (by kernel_rfl) (by kernel_rfl) hS1 (Or.inl ⟨by rfl, by (intro X hX; go_simp)⟩) ?_
      simp only [Act.put, List.setIfInBounds_toArray, List.set_cons_zero, List.set_cons_succ]
      refine Ht.takeN (i := 39) ⟨some 54, _, _, _, _, _⟩ (undef) rfl (Nat.le_refl 43) (by kernel_rfl) (by kernel_rfl) (by kernel_rfl) (by kernel_rfl) hS1 (Or.inr ⟨by rfl, rfl⟩) ?_
      simp only [Act.put, List.setIfInBounds_toArray, List.set_cons_zero, List.set_cons_succ]
      refine Ht.takeN (i := 40) ⟨some 55, _, _, _, _, _⟩ (undef) rfl (Nat.le_refl 43) (by kernel_rfl) (by kernel_rfl) (by kernel_rfl) (by kernel_rfl) hS1 (Or.inr ⟨by rfl, rfl⟩) ?_
      simp only [Act.put, List.setIfInBounds_toArray, List.set_cons_zero, List.set_cons_succ]
      refine Ht.takeN (i := 41) ⟨some 56, _, _, _, _, _⟩ (undef) rfl (Nat.le_refl 43) (by kernel_rfl) (by kernel_rfl) (by kernel_rfl) (by kernel_rfl) hS1 (Or.inr ⟨by rfl, rfl⟩) ?_
      simp only [Act.put, List.setIfInBounds_toArray, List.set_cons_zero, List.set_cons_succ]
      refine Ht.takeN (i := 42) ⟨some 57, _, _, _, _, _⟩ (.bool true) rfl (Nat.le_refl 43) (by kernel_rfl) (by kernel_rfl) (by kernel_rfl) (by kernel_rfl) hS1 (Or.inl ⟨by rfl, by (intro X hX; go_simp)⟩) ?_
      simp only [Act.put, List.setIfInBounds_toArray, List.set_cons_zero, List.set_cons_succ]
      refine done (by kernel_rfl) ?_
      obtain rfl : B = false := HV.out.1 (by first | (intro g; omega) | (have := HV.out.2.2 (by omega); intro g; omega))
      clear HV
      go_wp2_with fail
      go_meet
      exact ⟨rfl, by assumption⟩
    have ba7 : decide (mi < 0) = false := decide_eq_false a7
    refine Ht.takeN (i := 36) ⟨some 51, _, _, _, _, _⟩ (.bool false) rfl (Nat.le_refl 43) (by kernel_rfl) (by kernel_rfl) (by kernel_rfl) (by kernel_rfl) hS1 (Or.inl ⟨by rfl, by (intro X hX; go_simp)⟩) ?_
    simp only [Act.put, List.setIfInBounds_toArray, List.set_cons_zero, List.set_cons_succ]
    refine Ht.takeN (i := 37) ⟨some 52, _, _, _, _, _⟩ (.bool false) rfl (Nat.le_refl 43) (by kernel_rfl) (by kernel_rfl) (by kernel_rfl) (by kernel_rfl) hS1 (Or.inl ⟨by rfl, by (intro X hX; go_simp)⟩) ?_
    simp only [Act.put, List.setIfInBounds_toArray, List.set_cons_zero, List.set_cons_succ]
    refine Ht.takeN (i := 38) ⟨some 53, _, _, _, _, _⟩ (.bool false) rfl (Nat.le_refl 43) (by kernel_rfl) (by kernel_rfl) (by kernel_rfl) (by kernel_rfl) hS1 (Or.inl ⟨by rfl, by (intro X hX; go_simp)⟩) ?_
    simp only [Act.put, List.setIfInBounds_toArray, List.set_cons_zero, List.set_cons_succ]
    refine Ht.takeN (i := 39) ⟨some 54, _, _, _, _, _⟩ (.pointer (some ⟨w.heap.size, 5, none⟩)) rfl (Nat.le_refl 43) (by kernel_rfl) (by kernel_rfl) (by kernel_rfl) (by kernel_rfl) hS1 (Or.inl ⟨by rfl, by (intro X hX; go_simp)⟩) ?_
    simp only [Act.put, List.setIfInBounds_toArray, List.set_cons_zero, List.set_cons_succ]
    refine Ht.takeN (i := 40) ⟨some 55, _, _, _, _, _⟩ (.int .i64 mi) rfl (Nat.le_refl 43) (by kernel_rfl) (by kernel_rfl) (by kernel_rfl) (by kernel_rfl) hS1 (Or.inl ⟨by rfl, by (intro X hX; have h1 := (hX.cell (p := ⟨w.heap.size, 5, none⟩) HLT.out).trans c5; go_simp)⟩) ?_
    simp only [Act.put, List.setIfInBounds_toArray, List.set_cons_zero, List.set_cons_succ]
    by_cases a8 : 59 < mi
    · have ba8 : decide (59 < mi) = true := decide_eq_true a8
      refine Ht.takeN (i := 41) ⟨some 56, _, _, _, _, _⟩ (.bool true) rfl (Nat.le_refl 43) (by kernel_rfl) (by kernel_rfl) (by kernel_rfl) (by kernel_rfl) hS1 (Or.inl ⟨by rfl, by (intro X hX; go_simp)⟩) ?_
      simp only [Act.put, List.setIfInBounds_toArray, List.set_cons_zero, List.set_cons_succ]
      refine Ht.takeN (i := 42) ⟨some 57, _, _, _, _, _⟩ (.bool true) rfl (Nat.le_refl 43) (by kernel_rfl) (by kernel_rfl) (by kernel_rfl) (by kernel_rfl) hS1 (Or.inl ⟨by rfl, by (intro X hX; go_simp)⟩) ?_
      simp only [Act.put, List.setIfInBounds_toArray, List.set_cons_zero, List.set_cons_succ]
      refine done (by kernel_rfl) ?_
      obtain rfl : B = false := HV.out.1 (by first | (intro g; omega) | (have := HV.out.2.2 (by omega); intro g; omega))
      clear HV
      go_wp2_with fail
      go_meet
      exact ⟨rfl, by assumption⟩
    have ba8 : decide (59 < mi) = false := decide_eq_false a8
    refine Ht.takeN (i := 41) ⟨some 56, _, _, _, _, _⟩ (.bool false) rfl (Nat.le_refl 43) (by kernel_rfl) (by kernel_rfl) (by kernel_rfl) (by kernel_rfl) hS1 (Or.inl ⟨by rfl, by (intro X hX; go_simp)⟩) ?_
    simp only [Act.put, List.setIfInBounds_toArray, List.set_cons_zero, List.set_cons_succ]
    refine Ht.takeN (i := 42) ⟨some 57, _, _, _, _, _⟩ (.bool false) rfl (Nat.le_refl 43) (by kernel_rfl) (by kernel_rfl) (by kernel_rfl) (by kernel_rfl) hS1 (Or.inl ⟨by rfl, by (intro X hX; go_simp)⟩) ?_
    simp only [Act.put, List.setIfInBounds_toArray, List.set_cons_zero, List.set_cons_succ]
    refine done (by kernel_rfl) ?_
    obtain rfl : B = true := HV.out.2.1 (by omega)
    clear HV
    go_wp2_with fail
    go_meet
    exact ⟨rfl, by assumption⟩
  case rest =>
    obtain ⟨rfl, hbc⟩ := hcut
    have hkc := old_blk hbc H2.out.1
    have hbw := H2.out.2.1.trans (hbc.mono H2.out.2.1.size)
    have hzc : w.heap.size < wc.heap.size := by have := hbc.size; have := H2.out.2.2; omega
    obtain ⟨⟨c0, c1, c2, c3, c4, c5⟩, fz⟩ := mom_cells hkc
    have f3 := fz 3
    have hTE := H0.out.2.2
    have hBv := HB.out
    cases B
    · have hTE2 : tickV y mo d h mi = .tuple #[.int .i64 0, .int .i64 1] := by unfold tickV; rw [← hBv, if_neg (by decide)]
      rw [hTE2] at hTE
      obtain ⟨rfl, rfl⟩ : T = 0 ∧ E = 1 := by simpa using hTE
      have HW := Lib.hid hbw
      clear hTE hTE2 hBv hbw hkc hbc fz f3
      go_wp2_with fail
      go_ret
      exact ⟨rfl, HW.out⟩
    · obtain ⟨k1, k2, k3, k4, k5, k6⟩ := vldB_true.1 hBv.symm
      have hTE2 : tickV y mo d h mi = (if y < 2000 ∨ 2093917 < y then .tuple #[.int .i64 0, .int .i64 3] else tkV (tk y mo d h mi)) := by unfold tickV; rw [← hBv, if_pos rfl]
      rw [hTE2] at hTE
      have hmo : 1 ≤ mo ∧ mo ≤ 12 := by
        by_cases g : mo < 1 ∨ 12 < mo
        · have := dm_none (y := y) g; omega
        · omega
      have HW := Lib.hid (And.intro hbw (And.intro hTE (And.intro k2 hkc)))
      obtain ⟨i0, i1, i2, i3, i4, i5⟩ := HI.out
      unfold I64 at i0 i3
      have hd31 := (dm_le y mo).2
      have hd30 : d ≤ 31 := by omega
      clear hTE hTE2 hBv hbw hkc hbc fz k2 i1 i2 i4 i5 hd31
      go_wp2_with fail
      refine (Moment_in 1099511627776 wc (by omega) (by omega)).mono ?_
      rintro e w3 ⟨ly, lmo, ld, lwd, lh, lmi, rfl, hl, hb3⟩
      have hk3 := old_blk hb3 HW.out.2.2.2
      have hw3 := HW.out.1.trans (hb3.mono HW.out.1.size)
      have hz3 : w.heap.size < w3.heap.size := by have := hb3.size; omega
      obtain ⟨⟨e0, e1, e2, e3, e4, e5⟩, fz⟩ := mom_cells hk3
      have g3 := fz 3
      have hly := hl.y0
      have hlu : ly ≤ 2093917 := by have := hl.year.1; have := ah_ge hly; omega
      have HL := Lib.hid (And.intro hl (And.intro hw3 hk3))
      clear hl hb3 hk3 hw3 fz c0 c1 c2 c3 c4 c5 f3
      by_cases y0 : y < 2000
      · obtain ⟨rfl, rfl⟩ : T = 0 ∧ E = 3 := by
          have hTE := HW.out.2.1
          rw [if_pos (Or.inl y0)] at hTE
          simpa using hTE
        have q1 : y < ly := by omega
        have q2 : ¬ y = ly := by omega
        go_wp2_with fail
        go_ret
        exact ⟨rfl, HL.out.2.1.alloc (by have := HL.out.2.1.size; omega) _⟩
      have hy0 : 2000 ≤ y := by omega
      have hIt := isM_tk hy0 hmo.1 hmo.2 k1 HW.out.2.2.1 k3 k4 k5 k6
      have htn := tk_nonneg hy0 hmo.1 hmo.2 k1 k3 k5
      obtain ⟨t, et⟩ : ∃ t, t = tk y mo d h mi := ⟨_, rfl⟩
      rw [← et] at hIt htn
      by_cases far : 1099511627776 < t
      · obtain ⟨rfl, rfl⟩ : T = 0 ∧ E = 3 := by
          have hTE := HW.out.2.1
          by_cases g : y < 2000 ∨ 2093917 < y
          · rw [if_pos g] at hTE; simpa using hTE
          · rw [if_neg g] at hTE; unfold tkV at hTE; rw [if_pos (by rw [← et]; exact far)] at hTE; simpa using hTE
        have hcs := HL.out.1.lt hIt far (by omega)
        clear hIt htn et far
        rcases hcs with g0 | ⟨z0, g1 | ⟨z1, g2 | ⟨z2, g3' | ⟨z3, g4⟩⟩⟩⟩
        · have ne : ¬ y = ly := by omega
          go_wp2_with fail
          go_ret
          exact ⟨rfl, HL.out.2.1.alloc (by have := HL.out.2.1.size; omega) _⟩
        · subst z0
          have ne : ¬ mo = lmo := by omega
          go_wp2_with fail
          go_ret
          exact ⟨rfl, HL.out.2.1.alloc (by have := HL.out.2.1.size; omega) _⟩
        · subst z0
          subst z1
          have ne : ¬ d = ld := by omega
          go_wp2_with fail
          go_ret
          exact ⟨rfl, HL.out.2.1.alloc (by have := HL.out.2.1.size; omega) _⟩
        · subst z0
          subst z1
          subst z2
          have ne : ¬ h = lh := by omega
          go_wp2_with fail
          go_ret
          exact ⟨rfl, HL.out.2.1.alloc (by have := HL.out.2.1.size; omega) _⟩
        · subst z0
          subst z1
          subst z2
          subst z3
          have ne : ¬ mi = lmi := by omega
          go_wp2_with fail
          go_ret
          exact ⟨rfl, HL.out.2.1.alloc (by have := HL.out.2.1.size; omega) _⟩
      · have hyu : y ≤ 2093917 := by
          have := (hIt.year).1; have := ah_ge hy0; omega
        obtain ⟨rfl, rfl⟩ : T = t ∧ E = 0 := by
          have hTE := HW.out.2.1
          rw [if_neg (by omega)] at hTE; unfold tkV at hTE; rw [if_neg (by rw [← et]; exact far), ← et] at hTE; simpa using hTE
        have hmax : max T 0 = T := by omega
        have HT := Lib.hid (And.intro hIt et)
        clear hIt et
        rcases Int.lt_or_eq_of_le (show T ≤ 1099511627776 by omega) with hlt | heq
        · have hcs := HT.out.1.lt HL.out.1 hlt htn
          rcases hcs with g0 | ⟨z0, g1 | ⟨z1, g2 | ⟨z2, g3' | ⟨z3, g4⟩⟩⟩⟩
          · have ne : ¬ y = ly := by omega
            go_wp2_with fail
            refine (Moment_in T _ htn (by omega)).mono ?_
            rintro e w4 ⟨xy, xmo, xd, xwd, xh, xmi, rfl, hx, hb4⟩
            obtain ⟨rfl, rfl, rfl, rfl, rfl, rfl⟩ := HT.out.1.same hx
            have hal := (Below.refl w3.heap.size w3).alloc (Nat.le_refl _) (.cells (momC ly lmo ld lwd lh lmi) 23)
            have hk4 := old_blk hb4 (old_blk hal HL.out.2.2)
            have hz4 : w.heap.size < w4.heap.size := by have := hb4.size; simp at this; omega
            have hw4 := (HL.out.2.1.trans (hal.mono HL.out.2.1.size)).trans (hb4.mono (by have := HL.out.2.1.size; simp; omega))
            obtain ⟨⟨m0, m1, m2, m3, m4, m5⟩, fz⟩ := mom_cells hk4
            have p3 := fz 3
            have H4 := Lib.hid hw4
            clear hk4 hw4 hal hb4 hx fz e0 e1 e2 e3 e4 e5 g3
            go_wp2_with fail
            go_ret
            exact ⟨rfl, (H4.out.setCell (Nat.le_refl _) _).alloc (by have := H4.out.size; simp; omega) _⟩
          · subst z0
            have ne : ¬ mo = lmo := by omega
            go_wp2_with fail
            refine (Moment_in T _ htn (by omega)).mono ?_
            rintro e w4 ⟨xy, xmo, xd, xwd, xh, xmi, rfl, hx, hb4⟩
            obtain ⟨rfl, rfl, rfl, rfl, rfl, rfl⟩ := HT.out.1.same hx
            have hal := (Below.refl w3.heap.size w3).alloc (Nat.le_refl _) (.cells (momC y lmo ld lwd lh lmi) 23)
            have hk4 := old_blk hb4 (old_blk hal HL.out.2.2)
            have hz4 : w.heap.size < w4.heap.size := by have := hb4.size; simp at this; omega
            have hw4 := (HL.out.2.1.trans (hal.mono HL.out.2.1.size)).trans (hb4.mono (by have := HL.out.2.1.size; simp; omega))
            obtain ⟨⟨m0, m1, m2, m3, m4, m5⟩, fz⟩ := mom_cells hk4
            have p3 := fz 3
            have H4 := Lib.hid hw4
            clear hk4 hw4 hal hb4 hx fz e0 e1 e2 e3 e4 e5 g3
            go_wp2_with fail
            go_ret
            exact ⟨rfl, (H4.out.setCell (Nat.le_refl _) _).alloc (by have := H4.out.size; simp; omega) _⟩
          · subst z0
            subst z1
            have ne : ¬ d = ld := by omega
            go_wp2_with fail
            refine (Moment_in T _ htn (by omega)).mono ?_
            rintro e w4 ⟨xy, xmo, xd, xwd, xh, xmi, rfl, hx, hb4⟩
            obtain ⟨rfl, rfl, rfl, rfl, rfl, rfl⟩ := HT.out.1.same hx
            have hal := (Below.refl w3.heap.size w3).alloc (Nat.le_refl _) (.cells (momC y mo ld lwd lh lmi) 23)
            have hk4 := old_blk hb4 (old_blk hal HL.out.2.2)
            have hz4 : w.heap.size < w4.heap.size := by have := hb4.size; simp at this; omega
            have hw4 := (HL.out.2.1.trans (hal.mono HL.out.2.1.size)).trans (hb4.mono (by have := HL.out.2.1.size; simp; omega))
            obtain ⟨⟨m0, m1, m2, m3, m4, m5⟩, fz⟩ := mom_cells hk4
            have p3 := fz 3
            have H4 := Lib.hid hw4
            clear hk4 hw4 hal hb4 hx fz e0 e1 e2 e3 e4 e5 g3
            go_wp2_with fail
            go_ret
            exact ⟨rfl, (H4.out.setCell (Nat.le_refl _) _).alloc (by have := H4.out.size; simp; omega) _⟩
          · subst z0
            subst z1
            subst z2
            have ne : ¬ h = lh := by omega
            go_wp2_with fail
            refine (Moment_in T _ htn (by omega)).mono ?_
            rintro e w4 ⟨xy, xmo, xd, xwd, xh, xmi, rfl, hx, hb4⟩
            obtain ⟨rfl, rfl, rfl, rfl, rfl, rfl⟩ := HT.out.1.same hx
            have hal := (Below.refl w3.heap.size w3).alloc (Nat.le_refl _) (.cells (momC y mo d lwd lh lmi) 23)
            have hk4 := old_blk hb4 (old_blk hal HL.out.2.2)
            have hz4 : w.heap.size < w4.heap.size := by have := hb4.size; simp at this; omega
            have hw4 := (HL.out.2.1.trans (hal.mono HL.out.2.1.size)).trans (hb4.mono (by have := HL.out.2.1.size; simp; omega))
            obtain ⟨⟨m0, m1, m2, m3, m4, m5⟩, fz⟩ := mom_cells hk4
            have p3 := fz 3
            have H4 := Lib.hid hw4
            clear hk4 hw4 hal hb4 hx fz e0 e1 e2 e3 e4 e5 g3
            go_wp2_with fail
            go_ret
            exact ⟨rfl, (H4.out.setCell (Nat.le_refl _) _).alloc (by have := H4.out.size; simp; omega) _⟩
          · subst z0
            subst z1
            subst z2
            subst z3
            have ne : ¬ mi = lmi := by omega
            go_wp2_with fail
            refine (Moment_in T _ htn (by omega)).mono ?_
            rintro e w4 ⟨xy, xmo, xd, xwd, xh, xmi, rfl, hx, hb4⟩
            obtain ⟨rfl, rfl, rfl, rfl, rfl, rfl⟩ := HT.out.1.same hx
            have hal := (Below.refl w3.heap.size w3).alloc (Nat.le_refl _) (.cells (momC y mo d lwd h lmi) 23)
            have hk4 := old_blk hb4 (old_blk hal HL.out.2.2)
            have hz4 : w.heap.size < w4.heap.size := by have := hb4.size; simp at this; omega
            have hw4 := (HL.out.2.1.trans (hal.mono HL.out.2.1.size)).trans (hb4.mono (by have := HL.out.2.1.size; simp; omega))
            obtain ⟨⟨m0, m1, m2, m3, m4, m5⟩, fz⟩ := mom_cells hk4
            have p3 := fz 3
            have H4 := Lib.hid hw4
            clear hk4 hw4 hal hb4 hx fz e0 e1 e2 e3 e4 e5 g3
            go_wp2_with fail
            go_ret
            exact ⟨rfl, (H4.out.setCell (Nat.le_refl _) _).alloc (by have := H4.out.size; simp; omega) _⟩
        · have hst : IsM T ly lmo ld lwd lh lmi := by rw [heq]; exact HL.out.1
          obtain ⟨rfl, rfl, rfl, z5, rfl, rfl⟩ := HT.out.1.same hst
          clear hst heq
          go_wp2_with fail
          refine (Moment_in T _ htn (by omega)).mono ?_
          rintro e w4 ⟨xy, xmo, xd, xwd, xh, xmi, rfl, hx, hb4⟩
          obtain ⟨rfl, rfl, rfl, rfl, rfl, rfl⟩ := HT.out.1.same hx
          have hal := (Below.refl w3.heap.size w3).alloc (Nat.le_refl _) (.cells (momC y mo d lwd h mi) 23)
          have hk4 := old_blk hb4 (old_blk hal HL.out.2.2)
          have hz4 : w.heap.size < w4.heap.size := by have := hb4.size; simp at this; omega
          have hw4 := (HL.out.2.1.trans (hal.mono HL.out.2.1.size)).trans (hb4.mono (by have := HL.out.2.1.size; simp; omega))
          obtain ⟨⟨m0, m1, m2, m3, m4, m5⟩, fz⟩ := mom_cells hk4
          have p3 := fz 3
          have H4 := Lib.hid hw4
          clear hk4 hw4 hal hb4 hx fz e0 e1 e2 e3 e4 e5 g3
          go_wp2_with fail
          go_ret
          exact ⟨rfl, (H4.out.setCell (Nat.le_refl _) _).alloc (by have := H4.out.size; simp; omega) _⟩
end Go.Proofs.Ytipcfdiibbehbaa.Ca
