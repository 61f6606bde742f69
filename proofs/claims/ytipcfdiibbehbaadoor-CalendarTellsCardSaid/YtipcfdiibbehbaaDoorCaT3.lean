
/- a tick's text -/
import Derived.Test.YtipcfdiibbehbaaDoorCaT2
import Derived.Test.YtipcfdiibbehbaaDoorHd
import Derived.Shelf.Abstract
import Derived.Lib.ItoaLen
namespace Go.Proofs.YtipcfdiibbehbaaDoor.Ca
open Go.RowKit Go.Lib Go.Proofs.YtipcfdiibbehbaaDoor.Ht
attribute [local go_sem] Oper.semAt_some
set_option linter.unusedVariables false

/-- a moment's text, of its parts -/
def txtB (sy sm sd sh si : ByteArray) : ByteArray := sy ++ ⟨#[45]⟩ ++ sm ++ ⟨#[45]⟩ ++ sd ++ ⟨#[32]⟩ ++ sh ++ ⟨#[58]⟩ ++ si
/-- a number's digits, as a text -/
def decS (x : Int) : ByteArray := ⟨(decDigits x.toNat).toArray⟩
def twoS (x : Int) : ByteArray := ⟨(two x.toNat).toArray⟩
theorem itoa_S (y : Int) (w : World) (h0 : 0 ≤ y) (h2 : y ≤ 3000000) (ht : Tab w) :
    Calls Tryd.prog 14 #[.int .i64 y] w fun e w' => e = .returned (.string (decS y)) ∧ Below w.heap.size w w' := by
  obtain ⟨n, rfl⟩ : ∃ n : Nat, y = n := ⟨y.toNat, by omega⟩
  exact itoa_year n w (by omega) ht
theorem two_S (x : Int) (w : World) (h0 : 0 ≤ x) (h : x < 100) :
    Calls Tryd.prog 15 #[.int .i64 x] w fun e w' => e = .returned (.string (twoS x)) ∧ Below w.heap.size w w' := by
  obtain ⟨n, rfl⟩ : ∃ n : Nat, x = n := ⟨x.toNat, by omega⟩
  exact two_any n w (by omega)
theorem dig4_S (y : Int) (w : World) (h0 : 1000 ≤ y) (h2 : y ≤ 3000000) :
    Calls Tryd.prog 8 #[.int .i64 y, .int .i64 4] w fun e w' => e = .returned (.string (decS y)) ∧ Below w.heap.size w w' := by
  obtain ⟨n, rfl⟩ : ∃ n : Nat, y = n := ⟨y.toNat, by omega⟩
  exact digits4 n w (by omega) (by omega)
theorem dig2_S (x : Int) (w : World) (h0 : 0 ≤ x) (h : x < 100) :
    Calls Tryd.prog 8 #[.int .i64 x, .int .i64 2] w fun e w' => e = .returned (.string (twoS x)) ∧ Below w.heap.size w w' := by
  obtain ⟨n, rfl⟩ : ∃ n : Nat, x = n := ⟨x.toNat, by omega⟩
  exact digits2 n w (by omega)
theorem decS_size {y : Int} (h : y ≤ 3000000) : (decS y).size ≤ 20 := by
  have h1 : (decDigits y.toNat).length ≤ 20 := by rw [decDigits_length]; exact nDigits_le20 _ (by omega)
  simpa [decS, ByteArray.size] using h1
theorem twoS_size (x : Int) : (twoS x).size ≤ 2 := Nat.le_refl 2

theorem Text_out (t : Int) (w : World) (ht : I64 t) (ho : t < 0 ∨ 1099511627776 < t) :
    Calls Tryd.prog 6 #[.int .i64 t] w fun e w' => e = .returned (.string ⟨#[63]⟩) ∧ Below w.heap.size w w' := by
  have h1 := Of_out t w ht ho
  have H1 := Lib.hid h1
  clear h1 ht ho
  go_enter Tryd.func6, Tryd.ntmps6
  go_wp2_with fail
  refine H1.out.mono ?_
  rintro e w' ⟨rfl, hb⟩
  have HB := Lib.hid hb
  clear hb
  go_wp2_with fail
  go_ret
  exact ⟨rfl, HB.out.alloc HB.out.size _⟩

/-- so a tick's text is told -/
def ToldT (t : Int) (w : World) (e : Ending) (w' : World) : Prop := ∃ y mo d wd h mi, e = .returned (.string (txtB (decS y) (twoS mo) (twoS d) (twoS h) (twoS mi))) ∧ IsM t y mo d wd h mi ∧ Below w.heap.size w w'

set_option maxRecDepth 20000 in
set_option maxHeartbeats 4000000 in
theorem Text_in (t : Int) (w : World) (h0 : 0 ≤ t) (h1 : t ≤ 1099511627776) (ht : Tab w) :
    Calls Tryd.prog 6 #[.int .i64 t] w (ToldT t w) := by
  have HT := Lib.hid ht
  have hmix : Tryd.prog.follows .mixedOrders = true := by kernel_rfl
  clear ht
  go_enter Tryd.func6, Tryd.ntmps6
  go_wp2_with fail
  refine (Of_in t w h0 h1).mono ?_
  rintro e wb ⟨y, mo, d, wd, h, mi, rfl, hi, hb⟩
  obtain ⟨W1, hW1⟩ : ∃ W, W = wb.alloc (.cells (momC y mo d wd h mi) 24) := ⟨_, rfl⟩
  have hblk : W1.heap[wb.heap.size]? = some (.cells (momC y mo d wd h mi) 24 (0, 0)) := by rw [hW1]; exact heap_alloc_new wb _
  have hal : Below wb.heap.size wb W1 := by rw [hW1]; exact (Below.refl _ _).alloc (Nat.le_refl _) _
  have hlt : wb.heap.size < W1.heap.size := by rw [hW1]; simp
  obtain ⟨⟨c0, c1, c2, c3, c4, c5⟩, fz⟩ := mom_cells hblk
  have hy := hi.y0
  have hyu : y ≤ 3000000 := by have := hi.year.1; have := ah_ge hy; omega
  have hm : 0 ≤ mo ∧ mo < 100 := ⟨by have := hi.m1; omega, by have := hi.m2; omega⟩
  have hd : 0 ≤ d ∧ d < 100 := ⟨by have := hi.d1; omega, by have := hi.d2; have := (dm_le y mo).2; omega⟩
  have hh : 0 ≤ h ∧ h < 100 := ⟨by have := hi.h; omega, by have := hi.h; omega⟩
  have hmi : 0 ≤ mi ∧ mi < 100 := ⟨by have := hi.mi; omega, by have := hi.mi; omega⟩
  have HR := Lib.hid (And.intro hi (And.intro (hb.trans (hal.mono hb.size)) (HT.out.old (hb.trans (hal.mono hb.size)))))
  have HW := Lib.hid hW1
  have HLT := Lib.hid hlt
  clear hi hb hal hlt fz c3 hblk hW1
  go_wp2_with fail
  rw [← HW.out]
  have q1 := decS_size hyu
  have q2 := twoS_size mo
  have q3 := twoS_size d
  have q4 := twoS_size h
  have q5 := twoS_size mi
  obtain ⟨sy, esy⟩ : ∃ s, s = decS y := ⟨_, rfl⟩
  obtain ⟨sm, esm⟩ : ∃ s, s = twoS mo := ⟨_, rfl⟩
  obtain ⟨sd, esd⟩ : ∃ s, s = twoS d := ⟨_, rfl⟩
  obtain ⟨sh, esh⟩ : ∃ s, s = twoS h := ⟨_, rfl⟩
  obtain ⟨si, esi⟩ : ∃ s, s = twoS mi := ⟨_, rfl⟩
  rw [← esy] at q1
  rw [← esm] at q2
  rw [← esd] at q3
  rw [← esh] at q4
  rw [← esi] at q5
  have HS := Lib.hid (And.intro esy (And.intro esm (And.intro esd (And.intro esh esi))))
  clear esy esm esd esh esi
  have k0 : ∀ W, Below W1.heap.size W1 W → Calls Tryd.prog 14 #[.int .i64 y] W fun e w' => e = .returned (.string sy) ∧ Below W.heap.size W w' := fun W hW => by rw [HS.out.1]; exact itoa_S y W (by omega) hyu (HR.out.2.2.old hW)
  have k1 : ∀ W, Calls Tryd.prog 15 #[.int .i64 mo] W fun e w' => e = .returned (.string sm) ∧ Below W.heap.size W w' := fun W => by rw [HS.out.2.1]; exact two_S mo W hm.1 hm.2
  have k2 : ∀ W, Calls Tryd.prog 15 #[.int .i64 d] W fun e w' => e = .returned (.string sd) ∧ Below W.heap.size W w' := fun W => by rw [HS.out.2.2.1]; exact two_S d W hd.1 hd.2
  have k4 : ∀ W, Calls Tryd.prog 15 #[.int .i64 h] W fun e w' => e = .returned (.string sh) ∧ Below W.heap.size W w' := fun W => by rw [HS.out.2.2.2.1]; exact two_S h W hh.1 hh.2
  have k5 : ∀ W, Calls Tryd.prog 15 #[.int .i64 mi] W fun e w' => e = .returned (.string si) ∧ Below W.heap.size W w' := fun W => by rw [HS.out.2.2.2.2]; exact two_S mi W hmi.1 hmi.2
  have KC := Lib.hid (And.intro k0 (And.intro k1 (And.intro k2 (And.intro k4 k5))))
  clear k0 k1 k2 k4 k5
  refine begin' 24 (fun X => Below W1.heap.size W1 X) hmix (Below.refl W1.heap.size W1).drew (fun hS0 => ?_)
  refine Ht.takeN (i := 0) ⟨some 12, _, _, _, _, _⟩ (.pointer (some ⟨wb.heap.size, 0, none⟩)) rfl (Nat.le_refl 24) (by kernel_rfl) (by kernel_rfl) (by kernel_rfl) (by kernel_rfl) hS0 (Or.inl ⟨by rfl, by (intro X hX; go_simp)⟩) ?_
  simp only [Act.put, List.setIfInBounds_toArray, List.set_cons_zero, List.set_cons_succ]
  refine Ht.takeN (i := 1) ⟨some 13, _, _, _, _, _⟩ (.int .i64 y) rfl (Nat.le_refl 24) (by kernel_rfl) (by kernel_rfl) (by kernel_rfl) (by kernel_rfl) hS0 (Or.inl ⟨by rfl, by (intro X hX; have h1 := (hX.cell (p := ⟨wb.heap.size, 0, none⟩) HLT.out).trans c0; go_simp)⟩) ?_
  simp only [Act.put, List.setIfInBounds_toArray, List.set_cons_zero, List.set_cons_succ]
  refine Ht.takeN (i := 4) ⟨some 16, _, _, _, _, _⟩ (.pointer (some ⟨wb.heap.size, 1, none⟩)) rfl (Nat.le_refl 24) (by kernel_rfl) (by kernel_rfl) (by kernel_rfl) (by kernel_rfl) hS0 (Or.inl ⟨by rfl, by (intro X hX; go_simp)⟩) ?_
  simp only [Act.put, List.setIfInBounds_toArray, List.set_cons_zero, List.set_cons_succ]
  refine Ht.takeN (i := 5) ⟨some 17, _, _, _, _, _⟩ (.int .i64 mo) rfl (Nat.le_refl 24) (by kernel_rfl) (by kernel_rfl) (by kernel_rfl) (by kernel_rfl) hS0 (Or.inl ⟨by rfl, by (intro X hX; have h1 := (hX.cell (p := ⟨wb.heap.size, 1, none⟩) HLT.out).trans c1; go_simp)⟩) ?_
  simp only [Act.put, List.setIfInBounds_toArray, List.set_cons_zero, List.set_cons_succ]
  refine Ht.takeN (i := 9) ⟨some 21, _, _, _, _, _⟩ (.pointer (some ⟨wb.heap.size, 2, none⟩)) rfl (Nat.le_refl 24) (by kernel_rfl) (by kernel_rfl) (by kernel_rfl) (by kernel_rfl) hS0 (Or.inl ⟨by rfl, by (intro X hX; go_simp)⟩) ?_
  simp only [Act.put, List.setIfInBounds_toArray, List.set_cons_zero, List.set_cons_succ]
  refine Ht.takeN (i := 10) ⟨some 22, _, _, _, _, _⟩ (.int .i64 d) rfl (Nat.le_refl 24) (by kernel_rfl) (by kernel_rfl) (by kernel_rfl) (by kernel_rfl) hS0 (Or.inl ⟨by rfl, by (intro X hX; have h1 := (hX.cell (p := ⟨wb.heap.size, 2, none⟩) HLT.out).trans c2; go_simp)⟩) ?_
  simp only [Act.put, List.setIfInBounds_toArray, List.set_cons_zero, List.set_cons_succ]
  refine Ht.takeN (i := 14) ⟨some 26, _, _, _, _, _⟩ (.pointer (some ⟨wb.heap.size, 4, none⟩)) rfl (Nat.le_refl 24) (by kernel_rfl) (by kernel_rfl) (by kernel_rfl) (by kernel_rfl) hS0 (Or.inl ⟨by rfl, by (intro X hX; go_simp)⟩) ?_
  simp only [Act.put, List.setIfInBounds_toArray, List.set_cons_zero, List.set_cons_succ]
  refine Ht.takeN (i := 15) ⟨some 27, _, _, _, _, _⟩ (.int .i64 h) rfl (Nat.le_refl 24) (by kernel_rfl) (by kernel_rfl) (by kernel_rfl) (by kernel_rfl) hS0 (Or.inl ⟨by rfl, by (intro X hX; have h1 := (hX.cell (p := ⟨wb.heap.size, 4, none⟩) HLT.out).trans c4; go_simp)⟩) ?_
  simp only [Act.put, List.setIfInBounds_toArray, List.set_cons_zero, List.set_cons_succ]
  refine Ht.takeN (i := 19) ⟨some 31, _, _, _, _, _⟩ (.pointer (some ⟨wb.heap.size, 5, none⟩)) rfl (Nat.le_refl 24) (by kernel_rfl) (by kernel_rfl) (by kernel_rfl) (by kernel_rfl) hS0 (Or.inl ⟨by rfl, by (intro X hX; go_simp)⟩) ?_
  simp only [Act.put, List.setIfInBounds_toArray, List.set_cons_zero, List.set_cons_succ]
  refine Ht.takeN (i := 20) ⟨some 32, _, _, _, _, _⟩ (.int .i64 mi) rfl (Nat.le_refl 24) (by kernel_rfl) (by kernel_rfl) (by kernel_rfl) (by kernel_rfl) hS0 (Or.inl ⟨by rfl, by (intro X hX; have h1 := (hX.cell (p := ⟨wb.heap.size, 5, none⟩) HLT.out).trans c5; go_simp)⟩) ?_
  simp only [Act.put, List.setIfInBounds_toArray, List.set_cons_zero, List.set_cons_succ]
  refine Ht.step (i := 2) ⟨some 14, _, _, _, _, _⟩ rfl (by kernel_rfl) (by rfl) (fun K hK => ?_)
  refine Ht.enter 14 #[.int .i64 y] (by have hen := fun args w => enters_of (P := Tryd.prog) Tryd.func14 (by kernel_rfl) rfl args w; go_simp) (KC.out.1 _ hS0) ?_
  rintro e Y1 ⟨rfl, hY1⟩
  have hS1 : Below W1.heap.size W1 Y1 := hS0.trans (hY1.mono hS0.size)
  clear hY1
  refine ⟨_, rfl, hK _ _ (fun _ => hS1) (fun _ => ?_)⟩
  clear hK K
  simp only [Act.put, List.setIfInBounds_toArray, List.set_cons_zero, List.set_cons_succ]
  refine Ht.takeN (i := 3) ⟨some 15, _, _, _, _, _⟩ (.string (sy ++ ⟨#[45]⟩)) rfl (Nat.le_refl 24) (by kernel_rfl) (by kernel_rfl) (by kernel_rfl) (by kernel_rfl) hS1 (Or.inl ⟨by rfl, by (intro X hX; go_simp; omega)⟩) ?_
  simp only [Act.put, List.setIfInBounds_toArray, List.set_cons_zero, List.set_cons_succ]
  refine Ht.step (i := 6) ⟨some 18, _, _, _, _, _⟩ rfl (by kernel_rfl) (by rfl) (fun K hK => ?_)
  refine Ht.enter 15 #[.int .i64 mo] (by have hen := fun args w => enters_of (P := Tryd.prog) Tryd.func15 (by kernel_rfl) rfl args w; go_simp) (KC.out.2.1 _) ?_
  rintro e Y2 ⟨rfl, hY2⟩
  have hS2 : Below W1.heap.size W1 Y2 := hS1.trans (hY2.mono hS1.size)
  clear hY2
  refine ⟨_, rfl, hK _ _ (fun _ => hS2) (fun _ => ?_)⟩
  clear hK K
  simp only [Act.put, List.setIfInBounds_toArray, List.set_cons_zero, List.set_cons_succ]
  refine Ht.takeN (i := 7) ⟨some 19, _, _, _, _, _⟩ (.string (sy ++ ⟨#[45]⟩ ++ sm)) rfl (Nat.le_refl 24) (by kernel_rfl) (by kernel_rfl) (by kernel_rfl) (by kernel_rfl) hS2 (Or.inl ⟨by rfl, by (intro X hX; go_simp; omega)⟩) ?_
  simp only [Act.put, List.setIfInBounds_toArray, List.set_cons_zero, List.set_cons_succ]
  refine Ht.takeN (i := 8) ⟨some 20, _, _, _, _, _⟩ (.string (sy ++ ⟨#[45]⟩ ++ sm ++ ⟨#[45]⟩)) rfl (Nat.le_refl 24) (by kernel_rfl) (by kernel_rfl) (by kernel_rfl) (by kernel_rfl) hS2 (Or.inl ⟨by rfl, by (intro X hX; go_simp; omega)⟩) ?_
  simp only [Act.put, List.setIfInBounds_toArray, List.set_cons_zero, List.set_cons_succ]
  refine Ht.step (i := 11) ⟨some 23, _, _, _, _, _⟩ rfl (by kernel_rfl) (by rfl) (fun K hK => ?_)
  refine Ht.enter 15 #[.int .i64 d] (by have hen := fun args w => enters_of (P := Tryd.prog) Tryd.func15 (by kernel_rfl) rfl args w; go_simp) (KC.out.2.2.1 _) ?_
  rintro e Y3 ⟨rfl, hY3⟩
  have hS3 : Below W1.heap.size W1 Y3 := hS2.trans (hY3.mono hS2.size)
  clear hY3
  refine ⟨_, rfl, hK _ _ (fun _ => hS3) (fun _ => ?_)⟩
  clear hK K
  simp only [Act.put, List.setIfInBounds_toArray, List.set_cons_zero, List.set_cons_succ]
  refine Ht.takeN (i := 12) ⟨some 24, _, _, _, _, _⟩ (.string (sy ++ ⟨#[45]⟩ ++ sm ++ ⟨#[45]⟩ ++ sd)) rfl (Nat.le_refl 24) (by kernel_rfl) (by kernel_rfl) (by kernel_rfl) (by kernel_rfl) hS3 (Or.inl ⟨by rfl, by (intro X hX; go_simp; omega)⟩) ?_
  simp only [Act.put, List.setIfInBounds_toArray, List.set_cons_zero, List.set_cons_succ]
  refine Ht.takeN (i := 13) ⟨some 25, _, _, _, _, _⟩ (.string (sy ++ ⟨#[45]⟩ ++ sm ++ ⟨#[45]⟩ ++ sd ++ ⟨#[32]⟩)) rfl (Nat.le_refl 24) (by kernel_rfl) (by kernel_rfl) (by kernel_rfl) (by kernel_rfl) hS3 (Or.inl ⟨by rfl, by (intro X hX; go_simp; omega)⟩) ?_
  simp only [Act.put, List.setIfInBounds_toArray, List.set_cons_zero, List.set_cons_succ]
  refine Ht.step (i := 16) ⟨some 28, _, _, _, _, _⟩ rfl (by kernel_rfl) (by rfl) (fun K hK => ?_)
  refine Ht.enter 15 #[.int .i64 h] (by have hen := fun args w => enters_of (P := Tryd.prog) Tryd.func15 (by kernel_rfl) rfl args w; go_simp) (KC.out.2.2.2.1 _) ?_
  rintro e Y4 ⟨rfl, hY4⟩
  have hS4 : Below W1.heap.size W1 Y4 := hS3.trans (hY4.mono hS3.size)
  clear hY4
  refine ⟨_, rfl, hK _ _ (fun _ => hS4) (fun _ => ?_)⟩
  clear hK K
  simp only [Act.put, List.setIfInBounds_toArray, List.set_cons_zero, List.set_cons_succ]
  refine Ht.takeN (i := 17) ⟨some 29, _, _, _, _, _⟩ (.string (sy ++ ⟨#[45]⟩ ++ sm ++ ⟨#[45]⟩ ++ sd ++ ⟨#[32]⟩ ++ sh)) rfl (Nat.le_refl 24) (by kernel_rfl) (by kernel_rfl) (by kernel_rfl) (by kernel_rfl) hS4 (Or.inl ⟨by rfl, by (intro X hX; go_simp; omega)⟩) ?_
  simp only [Act.put, List.setIfInBounds_toArray, List.set_cons_zero, List.set_cons_succ]
  refine Ht.takeN (i := 18) ⟨some 30, _, _, _, _, _⟩ (.string (sy ++ ⟨#[45]⟩ ++ sm ++ ⟨#[45]⟩ ++ sd ++ ⟨#[32]⟩ ++ sh ++ ⟨#[58]⟩)) rfl (Nat.le_refl 24) (by kernel_rfl) (by kernel_rfl) (by kernel_rfl) (by kernel_rfl) hS4 (Or.inl ⟨by rfl, by (intro X hX; go_simp; omega)⟩) ?_
  simp only [Act.put, List.setIfInBounds_toArray, List.set_cons_zero, List.set_cons_succ]
  refine Ht.step (i := 21) ⟨some 33, _, _, _, _, _⟩ rfl (by kernel_rfl) (by rfl) (fun K hK => ?_)
  refine Ht.enter 15 #[.int .i64 mi] (by have hen := fun args w => enters_of (P := Tryd.prog) Tryd.func15 (by kernel_rfl) rfl args w; go_simp) (KC.out.2.2.2.2 _) ?_
  rintro e Y5 ⟨rfl, hY5⟩
  have hS5 : Below W1.heap.size W1 Y5 := hS4.trans (hY5.mono hS4.size)
  clear hY5
  refine ⟨_, rfl, hK _ _ (fun _ => hS5) (fun _ => ?_)⟩
  clear hK K
  simp only [Act.put, List.setIfInBounds_toArray, List.set_cons_zero, List.set_cons_succ]
  refine Ht.takeN (i := 22) ⟨some 34, _, _, _, _, _⟩ (.string (sy ++ ⟨#[45]⟩ ++ sm ++ ⟨#[45]⟩ ++ sd ++ ⟨#[32]⟩ ++ sh ++ ⟨#[58]⟩ ++ si)) rfl (Nat.le_refl 24) (by kernel_rfl) (by kernel_rfl) (by kernel_rfl) (by kernel_rfl) hS5 (Or.inl ⟨by rfl, by (intro X hX; go_simp; omega)⟩) ?_
  simp only [Act.put, List.setIfInBounds_toArray, List.set_cons_zero, List.set_cons_succ]
  refine Ht.takeN (i := 23) ⟨some 2, _, _, _, _, _⟩ (.string (sy ++ ⟨#[45]⟩ ++ sm ++ ⟨#[45]⟩ ++ sd ++ ⟨#[32]⟩ ++ sh ++ ⟨#[58]⟩ ++ si)) rfl (Nat.le_refl 24) (by kernel_rfl) (by kernel_rfl) (by kernel_rfl) (by kernel_rfl) hS5 (Or.inl ⟨by rfl, by (intro X hX; go_simp)⟩) ?_
  simp only [Act.put, List.setIfInBounds_toArray, List.set_cons_zero, List.set_cons_succ]
  refine done (by kernel_rfl) ?_
  have HZ := Lib.hid hS5
  go_wp2_with fail
  go_ret
  exact ⟨y, mo, d, wd, h, mi, by rw [← HS.out.1, ← HS.out.2.1, ← HS.out.2.2.1, ← HS.out.2.2.2.1, ← HS.out.2.2.2.2]; rfl, HR.out.1, HR.out.2.1.trans (HZ.out.mono HR.out.2.1.size)⟩
end Go.Proofs.YtipcfdiibbehbaaDoor.Ca
