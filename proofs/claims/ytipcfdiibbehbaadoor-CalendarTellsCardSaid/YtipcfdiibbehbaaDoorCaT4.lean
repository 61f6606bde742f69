
/- the walk of CalendarTells -/
import Derived.Test.YtipcfdiibbehbaaDoorCaT3
import Derived.Test.YtipcfdiibbehbaaDoorCa6
import Derived.Test.YtipcfdiibbehbaaDoorCa8
namespace Go.Proofs.YtipcfdiibbehbaaDoor.Ca
open Go.RowKit Go.Lib Go.Proofs.YtipcfdiibbehbaaDoor.Ht
attribute [local go_sem] Oper.semAt_some
set_option linter.unusedVariables false

/-- the tick of a tick's moment -/
theorem Tick_of {t y mo d wd h mi : Int} (i : IsM t y mo d wd h mi) (h0 : 0 ≤ t) (h1 : t ≤ 1099511627776) (w : World) :
    Calls Tryd.prog 7 #[mom y mo d wd h mi] w fun e w' => e = .returned (.tuple #[.int .i64 t, .int .i64 0]) ∧ Below w.heap.size w w' := by
  have hy := i.y0
  have hyu : y ≤ 2093917 := by have := i.year.1; have := ah_ge hy; omega
  have hv : vldB y mo d h mi = true := vldB_true.2 ⟨i.d1, i.d2, by have := i.h; omega, by have := i.h; omega, by have := i.mi; omega, by have := i.mi; omega⟩
  have e : tkV (tk y mo d h mi) = .tuple #[.int .i64 t, .int .i64 0] := by rw [i.tk]; exact if_neg (by omega)
  have := Tick_near y mo d wd h mi w (by unfold I64; have := i.m1; have := i.m2; omega) hv hy hyu
  rw [e] at this
  exact this

set_option maxHeartbeats 1000000 in
theorem tells_bad (t : Int) (w : World) (ht : I64 t) (ho : t < 0 ∨ 1099511627776 < t) :
    Calls Tryd.prog 3 #[.int .i64 t] w fun e w' => e = .returned (.bool true) ∧ Below w.heap.size w w' := by
  have h1 := fun W => Of_out t W ht ho
  have h2 := fun W => Text_out t W ht ho
  have H1 := Lib.hid (And.intro h1 h2)
  clear h1 h2
  unfold I64 at ht
  have hor : t < 0 ∨ (0 ≤ t ∧ 1099511627776 < t) := by omega
  clear ho
  rcases hor with h0 | ⟨h0, h3⟩
  all_goals
    go_enter Tryd.func3, Tryd.ntmps3
    go_wp2_with fail
    refine (lives06_any w).mono ?_
    rintro e wa ⟨rfl, hba⟩
    have HA := Lib.hid hba
    clear hba
    go_wp2_with fail
    refine (H1.out.1 _).mono ?_
    rintro e wb ⟨rfl, hbb⟩
    have HB := Lib.hid (HA.out.trans (hbb.mono HA.out.size))
    clear hbb
    go_wp2_with fail
    refine (H1.out.2 _).mono ?_
    rintro e wc ⟨rfl, hbc⟩
    have HC := Lib.hid hbc
    clear hbc
    go_wp2_with fail
    go_ret
    exact ⟨rfl, (HB.out.alloc HB.out.size _).trans (HC.out.mono (by simp; have := HB.out.size; omega))⟩

set_option maxRecDepth 20000 in
set_option maxHeartbeats 6000000 in
theorem tells_good (t : Int) (w : World) (h0 : 0 ≤ t) (h1 : t ≤ 1099511627776) (ht : Tab w) :
    Calls Tryd.prog 3 #[.int .i64 t] w fun e w' => e = .returned (.bool true) ∧ Below w.heap.size w w' := by
  have HT := Lib.hid ht
  have hmix : Tryd.prog.follows .mixedOrders = true := by kernel_rfl
  have b1 : decide (t < 0) = false := decide_eq_false (by omega)
  have b2 : decide (1099511627776 < t) = false := decide_eq_false (by omega)
  clear ht
  go_enter Tryd.func3, Tryd.ntmps3
  go_wp2_with fail
  refine (lives06_any w).mono ?_
  rintro e wa ⟨rfl, hba⟩
  have HA := Lib.hid hba
  clear hba
  go_wp2_with fail
  refine (Of_in t wa h0 h1).mono ?_
  rintro e wb ⟨y, mo, d, wd, h, mi, rfl, hi, hb⟩
  have hz := hb.size
  have HB := Lib.hid (And.intro hi (HA.out.trans (hb.mono HA.out.size)))
  clear hb
  have hTk := fun W => Tick_of hi h0 h1 W
  have hMo := fun W => Moment_in t W h0 h1
  have hTx := fun W (hW : Tab W) => Text_in t W h0 h1 hW
  have HC := Lib.hid (And.intro hTk (And.intro hMo hTx))
  clear hTk hMo hTx hz hi
  go_wp2_with fail
  refine (HC.out.1 _).mono ?_
  rintro e W1 ⟨rfl, hb1⟩
  have hblk : W1.heap[wb.heap.size]? = some (.cells (momC y mo d wd h mi) 24 (0, 0)) := old_blk hb1 (heap_alloc_new wb _)
  have hw1 := (HB.out.2.alloc HB.out.2.size _).trans (hb1.mono (by simp; have := HB.out.2.size; omega))
  have hlt : wb.heap.size < W1.heap.size := by have := hb1.size; simp at this; omega
  have hi := HB.out.1
  obtain ⟨⟨c0, c1, c2, c3, c4, c5⟩, fz⟩ := mom_cells hblk
  have hy := hi.y0
  have hyu : y ≤ 3000000 := by have := hi.year.1; have := ah_ge hy; omega
  have hm : 0 ≤ mo ∧ mo < 100 := ⟨by have := hi.m1; omega, by have := hi.m2; omega⟩
  have hd : 0 ≤ d ∧ d < 100 := ⟨by have := hi.d1; omega, by have := hi.d2; have := (dm_le y mo).2; omega⟩
  have hh : 0 ≤ h ∧ h < 100 := ⟨by have := hi.h; omega, by have := hi.h; omega⟩
  have hmi : 0 ≤ mi ∧ mi < 100 := ⟨by have := hi.mi; omega, by have := hi.mi; omega⟩
  have HR := Lib.hid (And.intro hi (And.intro hw1 (HT.out.old hw1)))
  have HLT := Lib.hid hlt
  clear hi hb1 hw1 hlt fz hblk
  go_wp2_with fail
  have q1 := decS_size hyu
  have q2 := twoS_size mo
  have q3 := twoS_size d
  have q4 := twoS_size h
  have q5 := twoS_size mi
  obtain ⟨sy, esy⟩ : ∃ s, s = decS y := ⟨_, rfl⟩
  obtain ⟨sm, esm⟩ : ∃ s, s = twoS mo := ⟨_, rfl⟩
  obtain ⟨sd, esd⟩ : ∃ s, s = twoS d := ⟨_, rfl⟩
  obtain ⟨sh, esh⟩ : ∃ s, s = twoS h := ⟨_, rfl⟩
  obtain ⟨si, esi⟩ : ∃ s, s = twoS mi := ⟨_, rfl⟩
  rw [← esy] at q1
  rw [← esm] at q2
  rw [← esd] at q3
  rw [← esh] at q4
  rw [← esi] at q5
  have HS := Lib.hid (And.intro esy (And.intro esm (And.intro esd (And.intro esh esi))))
  clear esy esm esd esh esi
  have k0 : ∀ W, Calls Tryd.prog 8 #[.int .i64 y, .int .i64 4] W fun e w' => e = .returned (.string sy) ∧ Below W.heap.size W w' := fun W => by rw [HS.out.1]; exact dig4_S y W (by omega) hyu
  have k1 : ∀ W, Calls Tryd.prog 8 #[.int .i64 mo, .int .i64 2] W fun e w' => e = .returned (.string sm) ∧ Below W.heap.size W w' := fun W => by rw [HS.out.2.1]; exact dig2_S mo W hm.1 hm.2
  have k2 : ∀ W, Calls Tryd.prog 8 #[.int .i64 d, .int .i64 2] W fun e w' => e = .returned (.string sd) ∧ Below W.heap.size W w' := fun W => by rw [HS.out.2.2.1]; exact dig2_S d W hd.1 hd.2
  have k4 : ∀ W, Calls Tryd.prog 8 #[.int .i64 h, .int .i64 2] W fun e w' => e = .returned (.string sh) ∧ Below W.heap.size W w' := fun W => by rw [HS.out.2.2.2.1]; exact dig2_S h W hh.1 hh.2
  have k5 : ∀ W, Calls Tryd.prog 8 #[.int .i64 mi, .int .i64 2] W fun e w' => e = .returned (.string si) ∧ Below W.heap.size W w' := fun W => by rw [HS.out.2.2.2.2]; exact dig2_S mi W hmi.1 hmi.2
  have KC := Lib.hid (And.intro k0 (And.intro k1 (And.intro k2 (And.intro k4 k5))))
  clear k0 k1 k2 k4 k5
  refine begin' 24 (fun X => Below W1.heap.size W1 X) hmix (Below.refl W1.heap.size W1).drew (fun hS0 => ?_)
  refine Ht.takeN (i := 0) ⟨some 38, _, _, _, _, _⟩ (.pointer (some ⟨wb.heap.size, 0, none⟩)) rfl (Nat.le_refl 24) (by kernel_rfl) (by kernel_rfl) (by kernel_rfl) (by kernel_rfl) hS0 (Or.inl ⟨by rfl, by (intro X hX; go_simp)⟩) ?_
  simp only [Act.put, List.setIfInBounds_toArray, List.set_cons_zero, List.set_cons_succ]
  refine Ht.takeN (i := 1) ⟨some 39, _, _, _, _, _⟩ (.int .i64 y) rfl (Nat.le_refl 24) (by kernel_rfl) (by kernel_rfl) (by kernel_rfl) (by kernel_rfl) hS0 (Or.inl ⟨by rfl, by (intro X hX; have h1 := (hX.cell (p := ⟨wb.heap.size, 0, none⟩) HLT.out).trans c0; go_simp)⟩) ?_
  simp only [Act.put, List.setIfInBounds_toArray, List.set_cons_zero, List.set_cons_succ]
  refine Ht.takeN (i := 4) ⟨some 42, _, _, _, _, _⟩ (.pointer (some ⟨wb.heap.size, 1, none⟩)) rfl (Nat.le_refl 24) (by kernel_rfl) (by kernel_rfl) (by kernel_rfl) (by kernel_rfl) hS0 (Or.inl ⟨by rfl, by (intro X hX; go_simp)⟩) ?_
  simp only [Act.put, List.setIfInBounds_toArray, List.set_cons_zero, List.set_cons_succ]
  refine Ht.takeN (i := 5) ⟨some 43, _, _, _, _, _⟩ (.int .i64 mo) rfl (Nat.le_refl 24) (by kernel_rfl) (by kernel_rfl) (by kernel_rfl) (by kernel_rfl) hS0 (Or.inl ⟨by rfl, by (intro X hX; have h1 := (hX.cell (p := ⟨wb.heap.size, 1, none⟩) HLT.out).trans c1; go_simp)⟩) ?_
  simp only [Act.put, List.setIfInBounds_toArray, List.set_cons_zero, List.set_cons_succ]
  refine Ht.takeN (i := 9) ⟨some 47, _, _, _, _, _⟩ (.pointer (some ⟨wb.heap.size, 2, none⟩)) rfl (Nat.le_refl 24) (by kernel_rfl) (by kernel_rfl) (by kernel_rfl) (by kernel_rfl) hS0 (Or.inl ⟨by rfl, by (intro X hX; go_simp)⟩) ?_
  simp only [Act.put, List.setIfInBounds_toArray, List.set_cons_zero, List.set_cons_succ]
  refine Ht.takeN (i := 10) ⟨some 48, _, _, _, _, _⟩ (.int .i64 d) rfl (Nat.le_refl 24) (by kernel_rfl) (by kernel_rfl) (by kernel_rfl) (by kernel_rfl) hS0 (Or.inl ⟨by rfl, by (intro X hX; have h1 := (hX.cell (p := ⟨wb.heap.size, 2, none⟩) HLT.out).trans c2; go_simp)⟩) ?_
  simp only [Act.put, List.setIfInBounds_toArray, List.set_cons_zero, List.set_cons_succ]
  refine Ht.takeN (i := 14) ⟨some 52, _, _, _, _, _⟩ (.pointer (some ⟨wb.heap.size, 4, none⟩)) rfl (Nat.le_refl 24) (by kernel_rfl) (by kernel_rfl) (by kernel_rfl) (by kernel_rfl) hS0 (Or.inl ⟨by rfl, by (intro X hX; go_simp)⟩) ?_
  simp only [Act.put, List.setIfInBounds_toArray, List.set_cons_zero, List.set_cons_succ]
  refine Ht.takeN (i := 15) ⟨some 53, _, _, _, _, _⟩ (.int .i64 h) rfl (Nat.le_refl 24) (by kernel_rfl) (by kernel_rfl) (by kernel_rfl) (by kernel_rfl) hS0 (Or.inl ⟨by rfl, by (intro X hX; have h1 := (hX.cell (p := ⟨wb.heap.size, 4, none⟩) HLT.out).trans c4; go_simp)⟩) ?_
  simp only [Act.put, List.setIfInBounds_toArray, List.set_cons_zero, List.set_cons_succ]
  refine Ht.takeN (i := 19) ⟨some 57, _, _, _, _, _⟩ (.pointer (some ⟨wb.heap.size, 5, none⟩)) rfl (Nat.le_refl 24) (by kernel_rfl) (by kernel_rfl) (by kernel_rfl) (by kernel_rfl) hS0 (Or.inl ⟨by rfl, by (intro X hX; go_simp)⟩) ?_
  simp only [Act.put, List.setIfInBounds_toArray, List.set_cons_zero, List.set_cons_succ]
  refine Ht.takeN (i := 20) ⟨some 58, _, _, _, _, _⟩ (.int .i64 mi) rfl (Nat.le_refl 24) (by kernel_rfl) (by kernel_rfl) (by kernel_rfl) (by kernel_rfl) hS0 (Or.inl ⟨by rfl, by (intro X hX; have h1 := (hX.cell (p := ⟨wb.heap.size, 5, none⟩) HLT.out).trans c5; go_simp)⟩) ?_
  simp only [Act.put, List.setIfInBounds_toArray, List.set_cons_zero, List.set_cons_succ]
  refine Ht.step (i := 2) ⟨some 40, _, _, _, _, _⟩ rfl (by kernel_rfl) (by rfl) (fun K hK => ?_)
  refine Ht.enter 8 #[.int .i64 y, .int .i64 4] (by have hen := fun args w => enters_of (P := Tryd.prog) Tryd.func8 (by kernel_rfl) rfl args w; go_simp) (KC.out.1 _) ?_
  rintro e Y1 ⟨rfl, hY1⟩
  have hS1 : Below W1.heap.size W1 Y1 := hS0.trans (hY1.mono hS0.size)
  clear hY1
  refine ⟨_, rfl, hK _ _ (fun _ => hS1) (fun _ => ?_)⟩
  clear hK K
  simp only [Act.put, List.setIfInBounds_toArray, List.set_cons_zero, List.set_cons_succ]
  refine Ht.takeN (i := 3) ⟨some 41, _, _, _, _, _⟩ (.string (sy ++ ⟨#[45]⟩)) rfl (Nat.le_refl 24) (by kernel_rfl) (by kernel_rfl) (by kernel_rfl) (by kernel_rfl) hS1 (Or.inl ⟨by rfl, by (intro X hX; go_simp; omega)⟩) ?_
  simp only [Act.put, List.setIfInBounds_toArray, List.set_cons_zero, List.set_cons_succ]
  refine Ht.step (i := 6) ⟨some 44, _, _, _, _, _⟩ rfl (by kernel_rfl) (by rfl) (fun K hK => ?_)
  refine Ht.enter 8 #[.int .i64 mo, .int .i64 2] (by have hen := fun args w => enters_of (P := Tryd.prog) Tryd.func8 (by kernel_rfl) rfl args w; go_simp) (KC.out.2.1 _) ?_
  rintro e Y2 ⟨rfl, hY2⟩
  have hS2 : Below W1.heap.size W1 Y2 := hS1.trans (hY2.mono hS1.size)
  clear hY2
  refine ⟨_, rfl, hK _ _ (fun _ => hS2) (fun _ => ?_)⟩
  clear hK K
  simp only [Act.put, List.setIfInBounds_toArray, List.set_cons_zero, List.set_cons_succ]
  refine Ht.takeN (i := 7) ⟨some 45, _, _, _, _, _⟩ (.string (sy ++ ⟨#[45]⟩ ++ sm)) rfl (Nat.le_refl 24) (by kernel_rfl) (by kernel_rfl) (by kernel_rfl) (by kernel_rfl) hS2 (Or.inl ⟨by rfl, by (intro X hX; go_simp; omega)⟩) ?_
  simp only [Act.put, List.setIfInBounds_toArray, List.set_cons_zero, List.set_cons_succ]
  refine Ht.takeN (i := 8) ⟨some 46, _, _, _, _, _⟩ (.string (sy ++ ⟨#[45]⟩ ++ sm ++ ⟨#[45]⟩)) rfl (Nat.le_refl 24) (by kernel_rfl) (by kernel_rfl) (by kernel_rfl) (by kernel_rfl) hS2 (Or.inl ⟨by rfl, by (intro X hX; go_simp; omega)⟩) ?_
  simp only [Act.put, List.setIfInBounds_toArray, List.set_cons_zero, List.set_cons_succ]
  refine Ht.step (i := 11) ⟨some 49, _, _, _, _, _⟩ rfl (by kernel_rfl) (by rfl) (fun K hK => ?_)
  refine Ht.enter 8 #[.int .i64 d, .int .i64 2] (by have hen := fun args w => enters_of (P := Tryd.prog) Tryd.func8 (by kernel_rfl) rfl args w; go_simp) (KC.out.2.2.1 _) ?_
  rintro e Y3 ⟨rfl, hY3⟩
  have hS3 : Below W1.heap.size W1 Y3 := hS2.trans (hY3.mono hS2.size)
  clear hY3
  refine ⟨_, rfl, hK _ _ (fun _ => hS3) (fun _ => ?_)⟩
  clear hK K
  simp only [Act.put, List.setIfInBounds_toArray, List.set_cons_zero, List.set_cons_succ]
  refine Ht.takeN (i := 12) ⟨some 50, _, _, _, _, _⟩ (.string (sy ++ ⟨#[45]⟩ ++ sm ++ ⟨#[45]⟩ ++ sd)) rfl (Nat.le_refl 24) (by kernel_rfl) (by kernel_rfl) (by kernel_rfl) (by kernel_rfl) hS3 (Or.inl ⟨by rfl, by (intro X hX; go_simp; omega)⟩) ?_
  simp only [Act.put, List.setIfInBounds_toArray, List.set_cons_zero, List.set_cons_succ]
  refine Ht.takeN (i := 13) ⟨some 51, _, _, _, _, _⟩ (.string (sy ++ ⟨#[45]⟩ ++ sm ++ ⟨#[45]⟩ ++ sd ++ ⟨#[32]⟩)) rfl (Nat.le_refl 24) (by kernel_rfl) (by kernel_rfl) (by kernel_rfl) (by kernel_rfl) hS3 (Or.inl ⟨by rfl, by (intro X hX; go_simp; omega)⟩) ?_
  simp only [Act.put, List.setIfInBounds_toArray, List.set_cons_zero, List.set_cons_succ]
  refine Ht.step (i := 16) ⟨some 54, _, _, _, _, _⟩ rfl (by kernel_rfl) (by rfl) (fun K hK => ?_)
  refine Ht.enter 8 #[.int .i64 h, .int .i64 2] (by have hen := fun args w => enters_of (P := Tryd.prog) Tryd.func8 (by kernel_rfl) rfl args w; go_simp) (KC.out.2.2.2.1 _) ?_
  rintro e Y4 ⟨rfl, hY4⟩
  have hS4 : Below W1.heap.size W1 Y4 := hS3.trans (hY4.mono hS3.size)
  clear hY4
  refine ⟨_, rfl, hK _ _ (fun _ => hS4) (fun _ => ?_)⟩
  clear hK K
  simp only [Act.put, List.setIfInBounds_toArray, List.set_cons_zero, List.set_cons_succ]
  refine Ht.takeN (i := 17) ⟨some 55, _, _, _, _, _⟩ (.string (sy ++ ⟨#[45]⟩ ++ sm ++ ⟨#[45]⟩ ++ sd ++ ⟨#[32]⟩ ++ sh)) rfl (Nat.le_refl 24) (by kernel_rfl) (by kernel_rfl) (by kernel_rfl) (by kernel_rfl) hS4 (Or.inl ⟨by rfl, by (intro X hX; go_simp; omega)⟩) ?_
  simp only [Act.put, List.setIfInBounds_toArray, List.set_cons_zero, List.set_cons_succ]
  refine Ht.takeN (i := 18) ⟨some 56, _, _, _, _, _⟩ (.string (sy ++ ⟨#[45]⟩ ++ sm ++ ⟨#[45]⟩ ++ sd ++ ⟨#[32]⟩ ++ sh ++ ⟨#[58]⟩)) rfl (Nat.le_refl 24) (by kernel_rfl) (by kernel_rfl) (by kernel_rfl) (by kernel_rfl) hS4 (Or.inl ⟨by rfl, by (intro X hX; go_simp; omega)⟩) ?_
  simp only [Act.put, List.setIfInBounds_toArray, List.set_cons_zero, List.set_cons_succ]
  refine Ht.step (i := 21) ⟨some 59, _, _, _, _, _⟩ rfl (by kernel_rfl) (by rfl) (fun K hK => ?_)
  refine Ht.enter 8 #[.int .i64 mi, .int .i64 2] (by have hen := fun args w => enters_of (P := Tryd.prog) Tryd.func8 (by kernel_rfl) rfl args w; go_simp) (KC.out.2.2.2.2 _) ?_
  rintro e Y5 ⟨rfl, hY5⟩
  have hS5 : Below W1.heap.size W1 Y5 := hS4.trans (hY5.mono hS4.size)
  clear hY5
  refine ⟨_, rfl, hK _ _ (fun _ => hS5) (fun _ => ?_)⟩
  clear hK K
  simp only [Act.put, List.setIfInBounds_toArray, List.set_cons_zero, List.set_cons_succ]
  refine Ht.takeN (i := 22) ⟨some 60, _, _, _, _, _⟩ (.string (sy ++ ⟨#[45]⟩ ++ sm ++ ⟨#[45]⟩ ++ sd ++ ⟨#[32]⟩ ++ sh ++ ⟨#[58]⟩ ++ si)) rfl (Nat.le_refl 24) (by kernel_rfl) (by kernel_rfl) (by kernel_rfl) (by kernel_rfl) hS5 (Or.inl ⟨by rfl, by (intro X hX; go_simp; omega)⟩) ?_
  simp only [Act.put, List.setIfInBounds_toArray, List.set_cons_zero, List.set_cons_succ]
  refine Ht.takeN (i := 23) ⟨some 7, _, _, _, _, _⟩ (.string (sy ++ ⟨#[45]⟩ ++ sm ++ ⟨#[45]⟩ ++ sd ++ ⟨#[32]⟩ ++ sh ++ ⟨#[58]⟩ ++ si)) rfl (Nat.le_refl 24) (by kernel_rfl) (by kernel_rfl) (by kernel_rfl) (by kernel_rfl) hS5 (Or.inl ⟨by rfl, by (intro X hX; go_simp)⟩) ?_
  simp only [Act.put, List.setIfInBounds_toArray, List.set_cons_zero, List.set_cons_succ]
  refine done (by kernel_rfl) ?_
  have hX1 : Below W1.heap.size W1 Y5 := hS5
  obtain ⟨sv, esv⟩ : ∃ s, s = sy ++ ⟨#[45]⟩ ++ sm ++ ⟨#[45]⟩ ++ sd ++ ⟨#[32]⟩ ++ sh ++ ⟨#[58]⟩ ++ si := ⟨_, rfl⟩
  rw [← esv]
  have hsv : sv = txtB (decS y) (twoS mo) (twoS d) (twoS h) (twoS mi) := by rw [esv, ← HS.out.1, ← HS.out.2.1, ← HS.out.2.2.1, ← HS.out.2.2.2.1, ← HS.out.2.2.2.2]; rfl
  have HX := Lib.hid (And.intro hX1 hsv)
  clear esv hX1 hsv hS0 hS1 hS2 hS3 hS4 hS5 q1 q2 q3 q4 q5
  go_wp2_with fail
  refine begin' 24 (fun X => Below W1.heap.size W1 X) hmix (HX.out.1.drew) (fun hS0 => ?_)
  refine Ht.takeN (i := 0) ⟨some 61, _, _, _, _, _⟩ (.int .i64 0) rfl (Nat.le_refl 24) (by kernel_rfl) (by kernel_rfl) (by kernel_rfl) (by kernel_rfl) hS0 (Or.inl ⟨by rfl, by (intro X hX; go_simp)⟩) ?_
  simp only [Act.put, List.setIfInBounds_toArray, List.set_cons_zero, List.set_cons_succ]
  refine Ht.takeN (i := 1) ⟨some 62, _, _, _, _, _⟩ (.bool true) rfl (Nat.le_refl 24) (by kernel_rfl) (by kernel_rfl) (by kernel_rfl) (by kernel_rfl) hS0 (Or.inl ⟨by rfl, by (intro X hX; go_simp)⟩) ?_
  simp only [Act.put, List.setIfInBounds_toArray, List.set_cons_zero, List.set_cons_succ]
  refine Ht.takeN (i := 2) ⟨some 63, _, _, _, _, _⟩ (.bool true) rfl (Nat.le_refl 24) (by kernel_rfl) (by kernel_rfl) (by kernel_rfl) (by kernel_rfl) hS0 (Or.inl ⟨by rfl, by (intro X hX; go_simp)⟩) ?_
  simp only [Act.put, List.setIfInBounds_toArray, List.set_cons_zero, List.set_cons_succ]
  refine Ht.takeN (i := 3) ⟨some 64, _, _, _, _, _⟩ (.agg #[.int .i64 y, .int .i64 mo, .int .i64 d, .int .i64 wd, .int .i64 h, .int .i64 mi]) rfl (Nat.le_refl 24) (by kernel_rfl) (by kernel_rfl) (by kernel_rfl) (by kernel_rfl) hS0 (Or.inl ⟨by rfl, by (intro X hX; have l0 := (hX.cell (p := ⟨wb.heap.size, 0, none⟩) HLT.out).trans c0; have l1 := (hX.cell (p := ⟨wb.heap.size, 1, none⟩) HLT.out).trans c1; have l2 := (hX.cell (p := ⟨wb.heap.size, 2, none⟩) HLT.out).trans c2; have l3 := (hX.cell (p := ⟨wb.heap.size, 3, none⟩) HLT.out).trans c3; have l4 := (hX.cell (p := ⟨wb.heap.size, 4, none⟩) HLT.out).trans c4; have l5 := (hX.cell (p := ⟨wb.heap.size, 5, none⟩) HLT.out).trans c5; go_simp)⟩) ?_
  simp only [Act.put, List.setIfInBounds_toArray, List.set_cons_zero, List.set_cons_succ]
  refine Ht.takeN (i := 4) ⟨some 65, _, _, _, _, _⟩ (.int .i64 t) rfl (Nat.le_refl 24) (by kernel_rfl) (by kernel_rfl) (by kernel_rfl) (by kernel_rfl) hS0 (Or.inl ⟨by rfl, by (intro X hX; go_simp)⟩) ?_
  simp only [Act.put, List.setIfInBounds_toArray, List.set_cons_zero, List.set_cons_succ]
  refine Ht.step (i := 5) ⟨some 66, _, _, _, _, _⟩ rfl (by kernel_rfl) (by rfl) (fun K hK => ?_)
  refine Ht.enter 9 #[.int .i64 t] (by have hen := fun args w => enters_of (P := Tryd.prog) Tryd.func9 (by kernel_rfl) rfl args w; go_simp) (HC.out.2.1 _) ?_
  rintro e Z1 ⟨xy, xmo, xd, xwd, xh, xmi, rfl, hx, hZ1⟩
  obtain ⟨rfl, rfl, rfl, rfl, rfl, rfl⟩ := HR.out.1.same hx
  have hS1 : Below W1.heap.size W1 Z1 := hS0.trans (hZ1.mono hS0.size)
  clear hZ1 hx
  refine ⟨_, rfl, hK _ _ (fun _ => hS1) (fun _ => ?_)⟩
  clear hK K
  simp only [Act.put, List.setIfInBounds_toArray, List.set_cons_zero, List.set_cons_succ]
  refine Ht.takeN (i := 6) ⟨some 67, _, _, _, _, _⟩ (.bool true) rfl (Nat.le_refl 24) (by kernel_rfl) (by kernel_rfl) (by kernel_rfl) (by kernel_rfl) hS1 (Or.inl ⟨by rfl, by (intro X hX; go_simp)⟩) ?_
  simp only [Act.put, List.setIfInBounds_toArray, List.set_cons_zero, List.set_cons_succ]
  refine Ht.takeN (i := 7) ⟨some 68, _, _, _, _, _⟩ (.bool true) rfl (Nat.le_refl 24) (by kernel_rfl) (by kernel_rfl) (by kernel_rfl) (by kernel_rfl) hS1 (Or.inl ⟨by rfl, by (intro X hX; go_simp)⟩) ?_
  simp only [Act.put, List.setIfInBounds_toArray, List.set_cons_zero, List.set_cons_succ]
  refine Ht.takeN (i := 8) ⟨some 69, _, _, _, _, _⟩ (.bool true) rfl (Nat.le_refl 24) (by kernel_rfl) (by kernel_rfl) (by kernel_rfl) (by kernel_rfl) hS1 (Or.inl ⟨by rfl, by (intro X hX; go_simp)⟩) ?_
  simp only [Act.put, List.setIfInBounds_toArray, List.set_cons_zero, List.set_cons_succ]
  refine Ht.takeN (i := 9) ⟨some 70, _, _, _, _, _⟩ (.int .i64 0) rfl (Nat.le_refl 24) (by kernel_rfl) (by kernel_rfl) (by kernel_rfl) (by kernel_rfl) hS1 (Or.inl ⟨by rfl, by (intro X hX; go_simp)⟩) ?_
  simp only [Act.put, List.setIfInBounds_toArray, List.set_cons_zero, List.set_cons_succ]
  refine Ht.takeN (i := 10) ⟨some 71, _, _, _, _, _⟩ (.bool true) rfl (Nat.le_refl 24) (by kernel_rfl) (by kernel_rfl) (by kernel_rfl) (by kernel_rfl) hS1 (Or.inl ⟨by rfl, by (intro X hX; go_simp)⟩) ?_
  simp only [Act.put, List.setIfInBounds_toArray, List.set_cons_zero, List.set_cons_succ]
  refine Ht.takeN (i := 11) ⟨some 72, _, _, _, _, _⟩ (.bool true) rfl (Nat.le_refl 24) (by kernel_rfl) (by kernel_rfl) (by kernel_rfl) (by kernel_rfl) hS1 (Or.inl ⟨by rfl, by (intro X hX; go_simp)⟩) ?_
  simp only [Act.put, List.setIfInBounds_toArray, List.set_cons_zero, List.set_cons_succ]
  refine Ht.takeN (i := 12) ⟨some 73, _, _, _, _, _⟩ (.bool true) rfl (Nat.le_refl 24) (by kernel_rfl) (by kernel_rfl) (by kernel_rfl) (by kernel_rfl) hS1 (Or.inl ⟨by rfl, by (intro X hX; go_simp)⟩) ?_
  simp only [Act.put, List.setIfInBounds_toArray, List.set_cons_zero, List.set_cons_succ]
  refine Ht.takeN (i := 13) ⟨some 74, _, _, _, _, _⟩ (.int .i64 t) rfl (Nat.le_refl 24) (by kernel_rfl) (by kernel_rfl) (by kernel_rfl) (by kernel_rfl) hS1 (Or.inl ⟨by rfl, by (intro X hX; go_simp)⟩) ?_
  simp only [Act.put, List.setIfInBounds_toArray, List.set_cons_zero, List.set_cons_succ]
  refine Ht.takeN (i := 14) ⟨some 75, _, _, _, _, _⟩ (.int .i64 t) rfl (Nat.le_refl 24) (by kernel_rfl) (by kernel_rfl) (by kernel_rfl) (by kernel_rfl) hS1 (Or.inl ⟨by rfl, by (intro X hX; go_simp)⟩) ?_
  simp only [Act.put, List.setIfInBounds_toArray, List.set_cons_zero, List.set_cons_succ]
  refine Ht.takeN (i := 15) ⟨some 76, _, _, _, _, _⟩ (.bool true) rfl (Nat.le_refl 24) (by kernel_rfl) (by kernel_rfl) (by kernel_rfl) (by kernel_rfl) hS1 (Or.inl ⟨by rfl, by (intro X hX; go_simp)⟩) ?_
  simp only [Act.put, List.setIfInBounds_toArray, List.set_cons_zero, List.set_cons_succ]
  refine Ht.takeN (i := 16) ⟨some 77, _, _, _, _, _⟩ (.bool true) rfl (Nat.le_refl 24) (by kernel_rfl) (by kernel_rfl) (by kernel_rfl) (by kernel_rfl) hS1 (Or.inl ⟨by rfl, by (intro X hX; go_simp)⟩) ?_
  simp only [Act.put, List.setIfInBounds_toArray, List.set_cons_zero, List.set_cons_succ]
  refine Ht.takeN (i := 17) ⟨some 78, _, _, _, _, _⟩ (.bool true) rfl (Nat.le_refl 24) (by kernel_rfl) (by kernel_rfl) (by kernel_rfl) (by kernel_rfl) hS1 (Or.inl ⟨by rfl, by (intro X hX; go_simp)⟩) ?_
  simp only [Act.put, List.setIfInBounds_toArray, List.set_cons_zero, List.set_cons_succ]
  refine Ht.takeN (i := 18) ⟨some 79, _, _, _, _, _⟩ (.int .i64 t) rfl (Nat.le_refl 24) (by kernel_rfl) (by kernel_rfl) (by kernel_rfl) (by kernel_rfl) hS1 (Or.inl ⟨by rfl, by (intro X hX; go_simp)⟩) ?_
  simp only [Act.put, List.setIfInBounds_toArray, List.set_cons_zero, List.set_cons_succ]
  refine Ht.takeN (i := 20) ⟨some 81, _, _, _, _, _⟩ (.string sv) rfl (Nat.le_refl 24) (by kernel_rfl) (by kernel_rfl) (by kernel_rfl) (by kernel_rfl) hS1 (Or.inl ⟨by rfl, by (intro X hX; go_simp)⟩) ?_
  simp only [Act.put, List.setIfInBounds_toArray, List.set_cons_zero, List.set_cons_succ]
  refine Ht.step (i := 19) ⟨some 80, _, _, _, _, _⟩ rfl (by kernel_rfl) (by rfl) (fun K hK => ?_)
  refine Ht.enter 6 #[.int .i64 t] (by have hen := fun args w => enters_of (P := Tryd.prog) Tryd.func6 (by kernel_rfl) rfl args w; go_simp) (HC.out.2.2 _ (HR.out.2.2.old hS1)) ?_
  rintro e Z2 ⟨xy, xmo, xd, xwd, xh, xmi, rfl, hx, hZ2⟩
  obtain ⟨rfl, rfl, rfl, rfl, rfl, rfl⟩ := HR.out.1.same hx
  rw [← HX.out.2]
  have hS2 : Below W1.heap.size W1 Z2 := hS1.trans (hZ2.mono hS1.size)
  clear hZ2 hx
  refine ⟨_, rfl, hK _ _ (fun _ => hS2) (fun _ => ?_)⟩
  clear hK K
  simp only [Act.put, List.setIfInBounds_toArray, List.set_cons_zero, List.set_cons_succ]
  refine Ht.takeN (i := 21) ⟨some 82, _, _, _, _, _⟩ (.bool true) rfl (Nat.le_refl 24) (by kernel_rfl) (by kernel_rfl) (by kernel_rfl) (by kernel_rfl) hS2 (Or.inl ⟨by rfl, by (intro X hX; go_simp)⟩) ?_
  simp only [Act.put, List.setIfInBounds_toArray, List.set_cons_zero, List.set_cons_succ]
  refine Ht.takeN (i := 22) ⟨some 83, _, _, _, _, _⟩ (.bool true) rfl (Nat.le_refl 24) (by kernel_rfl) (by kernel_rfl) (by kernel_rfl) (by kernel_rfl) hS2 (Or.inl ⟨by rfl, by (intro X hX; go_simp)⟩) ?_
  simp only [Act.put, List.setIfInBounds_toArray, List.set_cons_zero, List.set_cons_succ]
  refine Ht.takeN (i := 23) ⟨some 2, _, _, _, _, _⟩ (.bool true) rfl (Nat.le_refl 24) (by kernel_rfl) (by kernel_rfl) (by kernel_rfl) (by kernel_rfl) hS2 (Or.inl ⟨by rfl, by (intro X hX; go_simp)⟩) ?_
  simp only [Act.put, List.setIfInBounds_toArray, List.set_cons_zero, List.set_cons_succ]
  refine done (by kernel_rfl) ?_
  have HZ := Lib.hid hS2
  go_wp2_with fail
  go_ret
  exact ⟨rfl, HR.out.2.1.trans (HZ.out.mono HR.out.2.1.size)⟩
theorem tells_walk (a0 : Int) (w0 : (Lit.int .i64 a0).wf = true) (w : World) (ht : Tab w) :
    Calls Tryd.prog 3 #[.int .i64 a0] w fun e w' => e = .returned (.bool true) ∧ Below w.heap.size w w' := by
  have h0 : I64 a0 := by simpa [I64, Lit.wf, IntKind.min, IntKind.max, IntKind.signed, IntKind.bits] using w0
  by_cases ho : a0 < 0 ∨ 1099511627776 < a0
  · exact tells_bad a0 w h0 ho
  · exact tells_good a0 w (by omega) (by omega) ht
end Go.Proofs.YtipcfdiibbehbaaDoor.Ca
