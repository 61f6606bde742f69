
/- the document's answer for a tick's moment -/
import Derived.Test.YtkkanggkbbmfnaaDoorCa3
namespace Go.Proofs.YtkkanggkbbmfnaaDoor.Ca
open Go.RowKit Go.Lib
set_option linter.unusedVariables false

/-- a moment that is being made at block w.heap.size + 1, its day not yet -/
structure Mm (w : World) (wd h mi y mo : Int) (wr : World) : Prop where
  res : wr.heap[w.heap.size]? = some (.cells (momC 0 0 0 0 0 0) 37 (0, 0))
  blk : wr.heap[w.heap.size + 1]? = some (.cells (momC y mo 0 wd h mi) 37 (0, 0))
  bel : Below w.heap.size w wr
theorem Mm.old {w : World} {wd h mi y mo : Int} {wr w' : World} (k : Mm w wd h mi y mo wr) (hb : Below wr.heap.size wr w') : Mm w wd h mi y mo w' :=
  ⟨old_blk hb k.res, old_blk hb k.blk, k.bel.trans (hb.mono k.bel.size)⟩
theorem Mm.setY {w : World} {wd h mi y mo : Int} {wr : World} (k : Mm w wd h mi y mo wr) (z : Int) : Mm w wd h mi z mo (wr.setCell ⟨w.heap.size + 1, 0, none⟩ (.int .i64 z)) := by
  refine ⟨?_, heap_setCell_same _ _ 0 _ _ (.int .i64 z) k.blk, k.bel.setCell (by simp) _⟩
  rw [heap_setCell_other _ _ _ _ (by simp)]; exact k.res
theorem Mm.setM {w : World} {wd h mi y mo : Int} {wr : World} (k : Mm w wd h mi y mo wr) (z : Int) : Mm w wd h mi y z (wr.setCell ⟨w.heap.size + 1, 1, none⟩ (.int .i64 z)) := by
  refine ⟨?_, heap_setCell_same _ _ 1 _ _ (.int .i64 z) k.blk, k.bel.setCell (by simp) _⟩
  rw [heap_setCell_other _ _ _ _ (by simp)]; exact k.res

/-- so a tick's moment is told by the document's answer -/
def ToldM (t : Int) (w : World) (e : Ending) (w' : World) : Prop := ∃ y mo d wd h mi, e = .returned (mom y mo d wd h mi) ∧ IsM t y mo d wd h mi ∧ Below w.heap.size w w'

set_option maxRecDepth 20000 in
set_option maxHeartbeats 3000000 in
theorem Moment_in (t : Int) (w : World) (h0 : 0 ≤ t) (h1 : t ≤ 1099511627776) :
    Calls Tryd.prog 11 #[.int .i64 t] w (ToldM t w) := by
  have hD : 0 ≤ t / 1440 ∧ t / 1440 ≤ 800000000 := by omega
  have hq : 0 ≤ t / 1440 / 146097 ∧ t / 1440 / 146097 ≤ 6000 := by omega
  have hcy := ah_cyc (t / 1440 / 146097)
  have HC := Lib.hid hcy
  clear hcy
  go_enter Tryd.func11, Tryd.ntmps11
  go_wp2_with fail
  go_loopw [3] (fun v wr => ∃ y D, v = .int .i64 D ∧ 2000 ≤ y ∧ 0 ≤ D ∧ ah y + D = t / 1440 ∧ Mm w ((t / 1440 + 6) % 7) (t % 1440 / 60) (t % 60) y 1 wr) (fun v _ => (intOf v).toNat)
  case atStart =>
    refine ⟨2000 + t / 1440 / 146097 * 400, t / 1440 % 146097, rfl, by omega, by omega, ?_, ?_, ?_, ?_⟩
    · rw [Int.mul_comm, HC.out]; omega
    · exact (Below.heap_alloc _ _ _ (by simp)).trans (heap_alloc_new w _)
    · have := heap_alloc_new (w.alloc (.cells #[.int .i64 0, .int .i64 0, .int .i64 0, .int .i64 0, .int .i64 0, .int .i64 0] 37)) (.cells (momC (2000 + t / 1440 / 146097 * 400) 1 0 ((t / 1440 + 6) % 7) (t % 1440 / 60) (t % 60)) 37)
      simpa using this
    · exact ((Below.refl _ _).alloc (Nat.le_refl _) _).alloc (by simp) _
  case round =>
    obtain ⟨y, D, rfl, hy, hd, hs, hk⟩ := hrel
    have hyg := ah_ge hy
    have hyu : y ≤ 3000000 := by omega
    have hD2 : D ≤ 800000000 := by omega
    obtain ⟨⟨c0, c1, c2, c3, c4, c5⟩, fz⟩ := mom_cells hk.blk
    have f0 := fz 0
    have hsc := ah_succ hy
    obtain ⟨N, hN⟩ : ∃ N, N = yl y := ⟨_, rfl⟩
    have hNv : lp y = true ∧ N = 366 ∨ lp y = false ∧ N = 365 := by
      rw [hN]; unfold yl
      cases hl : lp y
      · exact .inr ⟨rfl, if_neg (by decide)⟩
      · exact .inl ⟨rfl, if_pos rfl⟩
    have HK := Lib.hid (And.intro hk (And.intro hs (And.intro hsc hN)))
    clear hk hs hsc hN fz c1 c2 c3 c4 c5 hyg
    rcases hNv with ⟨hl, rfl⟩ | ⟨hl, rfl⟩
    all_goals
      go_wp2_with fail
      refine (leap_any y wr (by unfold I64; omega)).mono ?_
      rintro e w' ⟨rfl, rfl⟩
      rw [hl]
      have HL := Lib.hid hl
      clear hl
    · by_cases hlt : D < 366
      · have hyl : D < yl y := by rw [← HK.out.2.2.2]; exact hlt
        have HY := Lib.hid hyl
        clear hyl
        go_wp2_with fail
        go_loopw [3] (fun v wr => ∃ mo D, v = .int .i64 D ∧ 1 ≤ mo ∧ mo ≤ 12 ∧ 0 ≤ D ∧ ah y + mb y mo + D = t / 1440 ∧ Mm w ((t / 1440 + 6) % 7) (t % 1440 / 60) (t % 60) y mo wr) (fun v _ => (intOf v).toNat)
        case atStart => exact ⟨1, D, rfl, by omega, by omega, hd, by rw [mb_one]; have := HK.out.2.1; omega, HK.out.1⟩
        case round =>
          obtain ⟨mo, E, rfl, hm1, hm2, he, hs, hk⟩ := hrel
          have hE : E ≤ 400 := by have := HK.out.2.1; have := mb_nonneg y hm1 (by omega); omega
          have hdm := dm_pos (y := y) hm1 hm2
          have hnx := mb_succ (y := y) hm1 hm2
          have hlast : mo = 12 → E < dm y mo := by
            intro e
            have h13 := mb_year y
            have h1 := HK.out.2.1
            have h2 := HY.out
            subst e
            rw [show (12 : Int) + 1 = 13 by rfl] at hnx
            omega
          have hq := fun W => length_any y mo W (by unfold I64; omega) (by unfold I64; omega)
          obtain ⟨L, eL⟩ : ∃ L, L = dm y mo := ⟨_, rfl⟩
          rw [← eL] at hdm hnx hlast
          simp only [← eL] at hq
          obtain ⟨⟨c0, c1, c2, c3, c4, c5⟩, fz⟩ := mom_cells hk.blk
          have HX := Lib.hid (And.intro hk (And.intro hs (And.intro hnx (And.intro hlast (And.intro eL hq)))))
          clear hk hs hnx hlast eL hq fz c2 c3 c4 c5
          by_cases hle : L ≤ E
          · go_wp2_with fail
            refine (HX.out.2.2.2.2.2 _).mono ?_
            rintro e w1 ⟨rfl, hb1⟩
            have hk1 := HX.out.1.old hb1
            obtain ⟨⟨d0, d1, d2, d3, d4, d5⟩, fz⟩ := mom_cells hk1.blk
            have H1 := Lib.hid hk1
            clear hk1 hb1 fz d2 d3 d4 d5 c0 c1
            go_wp2_with fail
            refine (HX.out.2.2.2.2.2 _).mono ?_
            rintro e w2 ⟨rfl, hb2⟩
            have hk2 := H1.out.old hb2
            obtain ⟨⟨g0, g1, g2, g3, g4, g5⟩, fz⟩ := mom_cells hk2.blk
            have f1 := fz 1
            have H2 := Lib.hid hk2
            clear hk2 hb2 fz g0 g2 g3 g4 g5 d0 d1 H1
            go_wp2_with fail
            exact ⟨⟨mo + 1, E - L, by go_num, by omega, by have := HX.out.2.2.2.1; omega, by omega, by have := HX.out.2.1; have := HX.out.2.2.1; omega, H2.out.setM (mo + 1)⟩, by simp [intOf]; omega⟩
          · go_wp2_with fail
            refine (HX.out.2.2.2.2.2 _).mono ?_
            rintro e w1 ⟨rfl, hb1⟩
            have hk1 := HX.out.1.old hb1
            obtain ⟨⟨d0, d1, d2, d3, d4, d5⟩, fz⟩ := mom_cells hk1.blk
            have f2 := fz 2
            obtain ⟨⟨r0, r1, r2, r3, r4, r5⟩, rz⟩ := mom_cells hk1.res
            have z0 := rz 0
            have z1 := rz 1
            have z2 := rz 2
            have z3 := rz 3
            have z4 := rz 4
            have z5 := rz 5
            have H1 := Lib.hid hk1
            clear hk1 hb1 fz rz c0 c1
            go_wp2_with fail
            (try simp only [Exit.inBlock, Exit.then])
            refine bodyPost_ret (v := mom y mo (E + 1) ((t / 1440 + 6) % 7) (t % 1440 / 60) (t % 60)) ?_ rfl ⟨y, mo, E + 1, _, _, _, rfl, ?_, ?_⟩
            · rw [results_c1 rfl]
              go_simp
            · exact ⟨hy, hm1, hm2, by omega, by have := HX.out.2.2.2.2.1; omega, by have := HX.out.2.1; omega, rfl, rfl, rfl⟩
            · exact (((((((H1.out.bel.setCell (by simp) _).setCell (Nat.le_refl _) _).setCell (Nat.le_refl _) _).setCell (Nat.le_refl _) _).setCell (Nat.le_refl _) _).setCell (Nat.le_refl _) _).setCell (Nat.le_refl _) _)
      · go_wp2_with fail
        refine ⟨⟨y + 1, D - 366, by go_num, by omega, by omega, ?_, HK.out.1.setY (y + 1)⟩, by simp [intOf]; omega⟩
        rw [HK.out.2.2.1, ← HK.out.2.2.2]; have := HK.out.2.1; omega
    · by_cases hlt : D < 365
      · have hyl : D < yl y := by rw [← HK.out.2.2.2]; exact hlt
        have HY := Lib.hid hyl
        clear hyl
        go_wp2_with fail
        go_loopw [3] (fun v wr => ∃ mo D, v = .int .i64 D ∧ 1 ≤ mo ∧ mo ≤ 12 ∧ 0 ≤ D ∧ ah y + mb y mo + D = t / 1440 ∧ Mm w ((t / 1440 + 6) % 7) (t % 1440 / 60) (t % 60) y mo wr) (fun v _ => (intOf v).toNat)
        case atStart => exact ⟨1, D, rfl, by omega, by omega, hd, by rw [mb_one]; have := HK.out.2.1; omega, HK.out.1⟩
        case round =>
          obtain ⟨mo, E, rfl, hm1, hm2, he, hs, hk⟩ := hrel
          have hE : E ≤ 400 := by have := HK.out.2.1; have := mb_nonneg y hm1 (by omega); omega
          have hdm := dm_pos (y := y) hm1 hm2
          have hnx := mb_succ (y := y) hm1 hm2
          have hlast : mo = 12 → E < dm y mo := by
            intro e
            have h13 := mb_year y
            have h1 := HK.out.2.1
            have h2 := HY.out
            subst e
            rw [show (12 : Int) + 1 = 13 by rfl] at hnx
            omega
          have hq := fun W => length_any y mo W (by unfold I64; omega) (by unfold I64; omega)
          obtain ⟨L, eL⟩ : ∃ L, L = dm y mo := ⟨_, rfl⟩
          rw [← eL] at hdm hnx hlast
          simp only [← eL] at hq
          obtain ⟨⟨c0, c1, c2, c3, c4, c5⟩, fz⟩ := mom_cells hk.blk
          have HX := Lib.hid (And.intro hk (And.intro hs (And.intro hnx (And.intro hlast (And.intro eL hq)))))
          clear hk hs hnx hlast eL hq fz c2 c3 c4 c5
          by_cases hle : L ≤ E
          · go_wp2_with fail
            refine (HX.out.2.2.2.2.2 _).mono ?_
            rintro e w1 ⟨rfl, hb1⟩
            have hk1 := HX.out.1.old hb1
            obtain ⟨⟨d0, d1, d2, d3, d4, d5⟩, fz⟩ := mom_cells hk1.blk
            have H1 := Lib.hid hk1
            clear hk1 hb1 fz d2 d3 d4 d5 c0 c1
            go_wp2_with fail
            refine (HX.out.2.2.2.2.2 _).mono ?_
            rintro e w2 ⟨rfl, hb2⟩
            have hk2 := H1.out.old hb2
            obtain ⟨⟨g0, g1, g2, g3, g4, g5⟩, fz⟩ := mom_cells hk2.blk
            have f1 := fz 1
            have H2 := Lib.hid hk2
            clear hk2 hb2 fz g0 g2 g3 g4 g5 d0 d1 H1
            go_wp2_with fail
            exact ⟨⟨mo + 1, E - L, by go_num, by omega, by have := HX.out.2.2.2.1; omega, by omega, by have := HX.out.2.1; have := HX.out.2.2.1; omega, H2.out.setM (mo + 1)⟩, by simp [intOf]; omega⟩
          · go_wp2_with fail
            refine (HX.out.2.2.2.2.2 _).mono ?_
            rintro e w1 ⟨rfl, hb1⟩
            have hk1 := HX.out.1.old hb1
            obtain ⟨⟨d0, d1, d2, d3, d4, d5⟩, fz⟩ := mom_cells hk1.blk
            have f2 := fz 2
            obtain ⟨⟨r0, r1, r2, r3, r4, r5⟩, rz⟩ := mom_cells hk1.res
            have z0 := rz 0
            have z1 := rz 1
            have z2 := rz 2
            have z3 := rz 3
            have z4 := rz 4
            have z5 := rz 5
            have H1 := Lib.hid hk1
            clear hk1 hb1 fz rz c0 c1
            go_wp2_with fail
            (try simp only [Exit.inBlock, Exit.then])
            refine bodyPost_ret (v := mom y mo (E + 1) ((t / 1440 + 6) % 7) (t % 1440 / 60) (t % 60)) ?_ rfl ⟨y, mo, E + 1, _, _, _, rfl, ?_, ?_⟩
            · rw [results_c1 rfl]
              go_simp
            · exact ⟨hy, hm1, hm2, by omega, by have := HX.out.2.2.2.2.1; omega, by have := HX.out.2.1; omega, rfl, rfl, rfl⟩
            · exact (((((((H1.out.bel.setCell (by simp) _).setCell (Nat.le_refl _) _).setCell (Nat.le_refl _) _).setCell (Nat.le_refl _) _).setCell (Nat.le_refl _) _).setCell (Nat.le_refl _) _).setCell (Nat.le_refl _) _)
      · go_wp2_with fail
        refine ⟨⟨y + 1, D - 365, by go_num, by omega, by omega, ?_, HK.out.1.setY (y + 1)⟩, by simp [intOf]; omega⟩
        rw [HK.out.2.2.1, ← HK.out.2.2.2]; have := HK.out.2.1; omega
end Go.Proofs.YtkkanggkbbmfnaaDoor.Ca
