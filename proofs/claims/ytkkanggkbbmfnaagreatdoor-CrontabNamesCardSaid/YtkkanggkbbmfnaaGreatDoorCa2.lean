
/- the calendar's contracts: Of -/
import Derived.Test.YtkkanggkbbmfnaaGreatDoorCa1
import Derived.Laws.Rows
import Derived.Laws.NewBlocks
import Derived.OwnWalk
import Derived.Deep.QuietTactic
import Derived.BigQuiet
import Derived.StillTailTactics
import Derived.Deep.RegionWith
import Derived.IntWalk
import Derived.WalkSmall
namespace Go.Proofs.YtkkanggkbbmfnaaGreatDoor.Ca
open Go.RowKit Go.Lib
set_option linter.unusedVariables false

theorem results_c1 {fn : Func} {p : Tmp} {ty : TypeId} (h : fn.results = #[.cell p ty]) (tmps : Array Value) (P : Program) (w : World) :
    (results fn tmps).run P w = ((asAddr (tmps.getD p undef)).run P w).andThen fun a w₁ => (loadVar ty a).run P w₁ := by
  simp only [results, h]
  simp [Sem.run_bind, Result.andThen]
theorem results_c2 {fn : Func} {p a : Tmp} {ty : TypeId} (h : fn.results = #[.cell p ty, .tmp a]) (tmps : Array Value) (P : Program) (w : World) :
    (results fn tmps).run P w =
      ((asAddr (tmps.getD p undef)).run P w).andThen fun x w₁ => ((loadVar ty x).run P w₁).andThen fun v w₂ => .ok (.tuple #[v, tmps.getD a undef]) w₂ := by
  simp only [results, h]
  simp [Sem.run_bind, Result.andThen]

/-- a moment's value -/
abbrev mom (y mo d wd h mi : Int) : Value := .agg #[.int .i64 y, .int .i64 mo, .int .i64 d, .int .i64 wd, .int .i64 h, .int .i64 mi]
/-- its cells -/
abbrev momC (y mo d wd h mi : Int) : Array Value := #[.int .i64 y, .int .i64 mo, .int .i64 d, .int .i64 wd, .int .i64 h, .int .i64 mi]
theorem mom_cells {w : World} {b : Nat} {y mo d wd h mi : Int} (e : w.heap[b]? = some (.cells (momC y mo d wd h mi) 111 (0, 0))) :
    (w.cell? ⟨b, 0, none⟩ = some (.int .i64 y) ∧ w.cell? ⟨b, 1, none⟩ = some (.int .i64 mo) ∧ w.cell? ⟨b, 2, none⟩ = some (.int .i64 d) ∧ w.cell? ⟨b, 3, none⟩ = some (.int .i64 wd) ∧ w.cell? ⟨b, 4, none⟩ = some (.int .i64 h) ∧ w.cell? ⟨b, 5, none⟩ = some (.int .i64 mi)) ∧
    (∀ k, w.frozen? ⟨b, k, none⟩ = false) := by
  refine ⟨⟨?_, ?_, ?_, ?_, ?_, ?_⟩, fun k => ?_⟩ <;> simp [World.cell?, World.frozen?, e]

theorem Of_out (t : Int) (w : World) (ht : I64 t) (ho : t < 0 ∨ 1099511627776 < t) :
    Calls Tryz.prog 67 #[.int .i64 t] w fun e w' => e = .returned (.tuple #[mom 0 0 0 0 0 0, .int .i64 3]) ∧ Below w.heap.size w w' := by
  have HT := Lib.hid ht
  have HO := Lib.hid ho
  clear ht ho
  go_enter Tryz.func67, Tryz.ntmps67
  go_wp2_with fail
  refine (outside_any t _ HT.out).mono ?_
  rintro x w' ⟨rfl, rfl⟩
  rw [decide_eq_true HO.out]
  go_wp2_with fail
  (try simp only [Exit.inBlock, Exit.then])
  refine bodyPost_ret (v := .tuple #[mom 0 0 0 0 0 0, .int .i64 3]) ?_ rfl ⟨rfl, ?_⟩
  · rw [results_c2 rfl]
    go_simp
  · (repeat' (first | exact Below.refl _ _ | refine Below.setCell ?_ (by simp <;> omega) _ | refine Below.alloc ?_ (by simp <;> omega) _))

/-- so a tick's moment is told -/
def Told (t : Int) (w : World) (e : Ending) (w' : World) : Prop := ∃ y mo d wd h mi, e = .returned (.tuple #[mom y mo d wd h mi, .int .i64 0]) ∧ IsM t y mo d wd h mi ∧ Below w.heap.size w w'

/-- a moment that is being made at block w.heap.size + 1 -/
structure Mk (w : World) (A D y wd h mi mo d : Int) (wr : World) : Prop where
  res : wr.heap[w.heap.size]? = some (.cells (momC 0 0 0 0 0 0) 111 (0, 0))
  blk : wr.heap[w.heap.size + 1]? = some (.cells (momC y mo d wd h mi) 111 (0, 0))
  bel : Below w.heap.size w wr
  m1 : 1 ≤ mo
  m2 : mo ≤ 12
  d1 : 1 ≤ d
  sum : A + mb y mo + (d - 1) = D
def dayAt (b : Nat) (w : World) : Nat := match w.cell? ⟨b, 2, none⟩ with
  | some (.int _ d) => d.toNat
  | _ => 0

theorem dayAt_blk {w : World} {b : Nat} {y mo d wd h mi : Int} (e : w.heap[b]? = some (.cells (momC y mo d wd h mi) 111 (0, 0))) : dayAt b w = d.toNat := by
  unfold dayAt; rw [(mom_cells e).1.2.2.1]
theorem Mk.next {w : World} {A D y wd h mi mo d L : Int} {wr : World} {n : Nat} (k : Mk w A D y wd h mi mo d wr) (hL : mb y (mo + 1) = mb y mo + L) (hg : L < d) (h12 : mo ≤ 11) :
    Mk w A D y wd h mi (mo + 1) (d - L) (((wr.drewN n).setCell ⟨w.heap.size + 1, 2, none⟩ (.int .i64 (d - L))).setCell ⟨w.heap.size + 1, 1, none⟩ (.int .i64 (mo + 1))) := by
  have hb0 : (wr.drewN n).heap[w.heap.size + 1]? = some (.cells (momC y mo d wd h mi) 111 (0, 0)) := k.blk
  have hb1 := heap_setCell_same _ _ 2 _ _ (.int .i64 (d - L)) hb0
  have hb2 := heap_setCell_same _ _ 1 _ _ (.int .i64 (mo + 1)) hb1
  refine ⟨?_, hb2, ((below_drewN k.bel n).setCell (by simp) _).setCell (by simp) _, by have := k.m1; omega, by omega, by omega, ?_⟩
  · rw [heap_setCell_other _ _ _ _ (by simp), heap_setCell_other _ _ _ _ (by simp)]; exact k.res
  · have := k.sum; omega
set_option maxHeartbeats 2000000 in
theorem Of_in (t : Int) (w : World) (h0 : 0 ≤ t) (h1 : t ≤ 1099511627776) :
    Calls Tryz.prog 67 #[.int .i64 t] w (Told t w) := by
  have hD : 0 ≤ t / 1440 ∧ t / 1440 ≤ 800000000 := by omega
  go_enter Tryz.func67, Tryz.ntmps67
  go_wp2_with fail
  refine (outside_any t _ (by unfold I64; omega)).mono ?_
  rintro x w' ⟨rfl, rfl⟩
  rw [decide_eq_false (by omega)]
  go_wp2_with fail
  refine (yearOf_any _ _ hD).mono ?_
  rintro x w' ⟨⟨y, rfl, hy, hy1, hy2⟩, rfl⟩
  have HY := Lib.hid (And.intro hy (And.intro hy1 hy2))
  have hyb := hy
  unfold Yr at hyb
  clear hy hy1 hy2
  go_wp2_with fail
  refine (ahead_any _ _ HY.out.1).mono ?_
  rintro x w' ⟨rfl, rfl⟩
  have hA1 := HY.out.2.1
  have hA2 := ah_ge HY.out.1.1
  obtain ⟨A, eA⟩ : ∃ A, A = ah y := ⟨_, rfl⟩
  rw [← eA] at hA1 hA2 ⊢
  have EA := Lib.hid eA
  clear eA
  go_wp2_with fail
  go_loopw [] (fun wr => ∃ mo d, Mk w A (t / 1440) y ((6 + t / 1440) % 7) (t % 1440 / 60) (t % 60) mo d wr) (fun wr => dayAt (w.heap.size + 1) wr)
  case atStart =>
    refine ⟨1, t / 1440 - A + 1, ?_, ?_, ?_, by omega, by omega, by omega, by rw [mb_one]; omega⟩
    · exact (Below.heap_alloc _ _ _ (by simp)).trans (heap_alloc_new w _)
    · have := heap_alloc_new (w.alloc (.cells #[.int .i64 0, .int .i64 0, .int .i64 0, .int .i64 0, .int .i64 0, .int .i64 0] 111)) (.cells #[.int .i64 y, .int .i64 1, .int .i64 (t / 1440 - A + 1), .int .i64 ((6 + t / 1440) % 7), .int .i64 (t % 1440 / 60), .int .i64 (t % 60)] 111)
      simpa using this
    · exact ((Below.refl _ _).alloc (Nat.le_refl _) _).alloc (by simp) _
  case round =>
    obtain ⟨mo, d, hk⟩ := hrel
    have hy2 := HY.out.2.2
    rw [ah_succ HY.out.1.1, ← EA.out] at hy2
    have hyl := yl_pos y
    have hmb := mb_nonneg y hk.m1 (by have := hk.m2; omega)
    have hm : 1 ≤ mo ∧ mo ≤ 12 := ⟨hk.m1, hk.m2⟩
    have hd : 1 ≤ d ∧ d ≤ 400 := ⟨hk.d1, by have := hk.sum; omega⟩
    have hdm := dm_pos (y := y) hm.1 hm.2
    have hnx := mb_succ (y := y) hm.1 hm.2
    have hlast : mo = 12 → d ≤ dm y mo := by
      intro e
      have h13 := mb_year y
      have hs := hk.sum
      subst e
      rw [show (12 : Int) + 1 = 13 by rfl] at hnx
      omega
    obtain ⟨⟨c0, c1, c2, c3, c4, c5⟩, fz⟩ := mom_cells hk.blk
    have f1 := fz 1
    have f2 := fz 2
    obtain ⟨⟨r0, r1, r2, r3, r4, r5⟩, rz⟩ := mom_cells hk.res
    have z0 := rz 0
    have z1 := rz 1
    have z2 := rz 2
    have z3 := rz 3
    have z4 := rz 4
    have z5 := rz 5
    have hq := fun n => Days_any y mo (wr.drewN n) (by unfold I64; omega) (by unfold I64; omega)
    have hq2 := fun W => Days_any y mo W (by unfold I64; omega) (by unfold I64; omega)
    obtain ⟨L, eL⟩ : ∃ L, L = dm y mo := ⟨_, rfl⟩
    rw [← eL] at hdm hnx hlast
    simp only [← eL] at hq hq2
    have HK := Lib.hid hk
    have HX := Lib.hid (And.intro hy2 (And.intro hyl (And.intro hmb (And.intro hnx (And.intro hlast eL)))))
    clear hk hy2 hyl hmb hnx hlast eL fz rz
    by_cases hgt : L < d
    · have hgB : decide (L < d) = true := by simpa using hgt
      clear r0 r1 r2 r3 r4 r5 z0 z1 z2 z3 z4 z5
      have hwr := Lib.hid (show IntKind.i64.wrap (d - L) = d - L from IntWalk.i64_in _ (by omega))
      go_wp2_with fail
      go_quiet ((go_at_call 93; exact Calls.quiet_of_same (hq _)))
      go_wp2_with fail
      go_region_with (go_at_call 93; refine (hq2 _).mono ?_; rintro e w' ⟨rfl, rfl⟩)
      all_goals
        rw [hwr.out]
        go_wp2_with fail
        go_roundw
        case rel => exact ⟨_, _, HK.out.next HX.out.2.2.2.1 hgt (by have := HX.out.2.2.2.2.1; omega)⟩
        case measure =>
          rw [dayAt_blk HK.out.blk, dayAt_blk (HK.out.next HX.out.2.2.2.1 hgt (by have := HX.out.2.2.2.2.1; omega)).blk]
          omega
    · have hgB : decide (L < d) = false := by simpa using hgt
      go_wp2_with fail
      go_quiet ((go_at_call 93; exact Calls.quiet_of_same (hq _)))
      go_wp2_with fail
      (try simp only [Exit.inBlock, Exit.then])
      refine bodyPost_ret (v := .tuple #[mom y mo d ((6 + t / 1440) % 7) (t % 1440 / 60) (t % 60), .int .i64 0]) ?_ rfl ⟨y, mo, d, _, _, _, rfl, ?_, ?_⟩
      · rw [results_c2 rfl]
        go_simp
      · exact ⟨HY.out.1.1, hm.1, hm.2, hd.1, by rw [← HX.out.2.2.2.2.2]; exact hgt, by rw [← EA.out]; exact HK.out.sum, by rw [Int.add_comm], rfl, rfl⟩
      · exact (((((((below_drewN HK.out.bel nq).setCell (Nat.le_refl _) _).setCell (Nat.le_refl _) _).setCell (Nat.le_refl _) _).setCell (Nat.le_refl _) _).setCell (Nat.le_refl _) _).setCell (Nat.le_refl _) _)
end Go.Proofs.YtkkanggkbbmfnaaGreatDoor.Ca
