
/- fires: some days on -/
import Derived.Test.YtkkanggkbbmfnaaGreatDoorFi1
namespace Go.Proofs.YtkkanggkbbmfnaaGreatDoor.Fi
open Go.RowKit Go.Lib Go.Proofs.YtkkanggkbbmfnaaGreatDoor.Cn
set_option linter.unusedVariables false

/-- what a moment some days on is -/
def LaterM (t h mi : Int) (w : World) (r : Ending) (w' : World) : Prop := ∃ y mo d wd, r = .returned (Ca.mom y mo d wd h mi) ∧ Ca.IsM t y mo d wd 0 0 ∧ Below w.heap.size w w'
theorem mom_set {w : World} {b : Nat} {y mo d wd h mi : Int} (e : w.heap[b]? = some (.cells (Ca.momC y mo d wd h mi) 111 (0, 0))) (k : Nat) (v : Value) :
    (w.setCell ⟨b, k, none⟩ v).heap[b]? = some (.cells ((Ca.momC y mo d wd h mi).setIfInBounds k v) 111 (0, 0)) := heap_setCell_same w b k _ _ v e
theorem below_mom6 {B b : Nat} {a w : World} (h : Below B a w) (hb : B ≤ b) (v0 v1 v2 v3 v4 v5 : Value) : Below B a ((((((w.setCell ⟨b, 0, none⟩ v0).setCell ⟨b, 1, none⟩ v1).setCell ⟨b, 2, none⟩ v2).setCell ⟨b, 3, none⟩ v3).setCell ⟨b, 4, none⟩ v4).setCell ⟨b, 5, none⟩ v5) :=
  (((((h.setCell (p := ⟨b, 0, none⟩) hb _).setCell (p := ⟨b, 1, none⟩) hb _).setCell (p := ⟨b, 2, none⟩) hb _).setCell (p := ⟨b, 3, none⟩) hb _).setCell (p := ⟨b, 4, none⟩) hb _).setCell (p := ⟨b, 5, none⟩) hb _
set_option maxRecDepth 20000 in
set_option maxHeartbeats 4000000 in
theorem later_any (F y mo d wd h mi n : Int) (i : Ca.IsM F y mo d wd 0 0) (hy : y ≤ 3000000) (h1 : 1 ≤ n) (h2 : d + n ≤ Ca.dm y mo + 1) (w : World) :
    Calls Tryz.prog 71 #[Ca.mom y mo d wd h mi, .int .i64 n] w (LaterM (F + 1440 * n) h mi w) := by
  obtain ⟨k1, k2, k3⟩ := isM_skip i h1 h2
  have hq := fun W => Ca.Days_any y mo W (by have := i.y0; unfold Ca.I64; omega) (by have := i.m1; have := i.m2; unfold Ca.I64; omega)
  have hdp := Ca.dm_pos (y := y) i.m1 i.m2
  have hwd := i.wd
  have hwd2 : 0 ≤ wd ∧ wd ≤ 6 := by omega
  have hm := i.m1
  have hm' := i.m2
  have hd1 := i.d1
  have hy0 := i.y0
  have HI := Lib.hid (And.intro k1 (And.intro k2 k3))
  clear k1 k2 k3 i hwd
  generalize Ca.dm y mo = D at hq hdp h2 HI
  obtain ⟨V, hV⟩ : ∃ V, V = (w.alloc (.cells (Ca.momC y mo (d + n) ((wd + n) % 7) h mi) 111)).alloc (.cells (Ca.momC 0 0 0 0 0 0) 111) := ⟨_, rfl⟩
  obtain ⟨b1, b2, b3, b4⟩ := two_new w (Ca.momC y mo (d + n) ((wd + n) % 7) h mi) 111 (Ca.momC 0 0 0 0 0 0) 111
  rw [← hV] at b1 b2 b3 b4
  have HV := Lib.hid (And.intro hV (And.intro b1 (And.intro b2 (And.intro b3 b4))))
  clear hV b1 b2 b3 b4
  go_enter Tryz.func71, Tryz.ntmps71
  go_wp2_with fail
  rw [← HV.out.1]
  obtain ⟨⟨m0, m1, m2, m3, m4, m5⟩, fz⟩ := Ca.mom_cells HV.out.2.2.1
  generalize (wd + n) % 7 = wd' at *
  by_cases c1 : d + n ≤ D
  · go_quiet ((go_at_call 93; exact Calls.quiet_of_same (hq _)))
    have j := HI.out.1 c1
    have HJ := Lib.hid j
    clear j m0 m1 m2 m3 m4 m5 fz HI
    obtain ⟨V2, hV2⟩ : ∃ V2, V2 = V.drewN nq := ⟨_, rfl⟩
    have hb2 : Below w.heap.size w V2 := by rw [hV2]; exact below_drewN HV.out.2.1 _
    have hg0 : V2.heap[w.heap.size]? = some (.cells (Ca.momC y mo (d + n) wd' h mi) 111 (0, 0)) := by rw [hV2]; exact HV.out.2.2.1
    have hg1 : V2.heap[w.heap.size + 1]? = some (.cells (Ca.momC 0 0 0 0 0 0) 111 (0, 0)) := by rw [hV2]; exact HV.out.2.2.2.1
    have hlt : w.heap.size < V2.heap.size := (Array.getElem?_eq_some_iff.1 hg0).1
    have hlt1 : w.heap.size + 1 < V2.heap.size := (Array.getElem?_eq_some_iff.1 hg1).1
    rw [← hV2]
    have HB := Lib.hid hb2
    clear hV2 hb2 HV
    obtain ⟨⟨m0, m1, m2, m3, m4, m5⟩, fz⟩ := Ca.mom_cells hg0
    have f0 := fz 0
    have f1 := fz 1
    have f2 := fz 2
    obtain ⟨⟨r0, r1, r2, r3, r4, r5⟩, gz⟩ := Ca.mom_cells hg1
    have z0 := gz 0
    have z1 := gz 1
    have z2 := gz 2
    have z3 := gz 3
    have z4 := gz 4
    have z5 := gz 5
    clear hg0 hg1 fz gz
    go_wp2_with fail
    refine bodyPost_ret (v := Ca.mom y mo (d + n) wd' h mi) ?_ rfl ⟨_, _, _, _, rfl, HJ.out, ?_⟩
    · rw [Ca.results_c1 rfl]
      go_simp
    · exact below_mom6 HB.out (Nat.le_succ _) _ _ _ _ _ _
  · have hc1 : D < d + n := by omega
    go_quiet ((go_at_call 93; exact Calls.quiet_of_same (hq _)))
    by_cases c2 : mo < 12
    · have j := HI.out.2.1 hc1 c2
      have HJ := Lib.hid j
      clear j m0 m1 m2 m3 m4 m5 fz HI
      obtain ⟨V2, hV2⟩ : ∃ V2, V2 = V.drewN nq := ⟨_, rfl⟩
      have hb2 : Below w.heap.size w V2 := by rw [hV2]; exact below_drewN HV.out.2.1 _
      have hg0 : V2.heap[w.heap.size]? = some (.cells (Ca.momC y mo (d + n) wd' h mi) 111 (0, 0)) := by rw [hV2]; exact HV.out.2.2.1
      have hg1 : V2.heap[w.heap.size + 1]? = some (.cells (Ca.momC 0 0 0 0 0 0) 111 (0, 0)) := by rw [hV2]; exact HV.out.2.2.2.1
      have hlt : w.heap.size < V2.heap.size := (Array.getElem?_eq_some_iff.1 hg0).1
      have hlt1 : w.heap.size + 1 < V2.heap.size := (Array.getElem?_eq_some_iff.1 hg1).1
      rw [← hV2]
      have HB := Lib.hid hb2
      clear hV2 hb2 HV
      obtain ⟨⟨m0, m1, m2, m3, m4, m5⟩, fz⟩ := Ca.mom_cells hg0
      have f0 := fz 0
      have f1 := fz 1
      have f2 := fz 2
      obtain ⟨⟨r0, r1, r2, r3, r4, r5⟩, gz⟩ := Ca.mom_cells hg1
      have z0 := gz 0
      have z1 := gz 1
      have z2 := gz 2
      have z3 := gz 3
      have z4 := gz 4
      have z5 := gz 5
      clear hg0 hg1 fz gz
      go_wp2_with fail
      refine bodyPost_ret (v := Ca.mom y (mo + 1) 1 wd' h mi) ?_ rfl ⟨_, _, _, _, rfl, HJ.out, ?_⟩
      · rw [Ca.results_c1 rfl]
        go_simp
      · exact below_mom6 ((HB.out.setCell (p := ⟨w.heap.size, 2, none⟩) (Nat.le_refl _) _).setCell (p := ⟨w.heap.size, 1, none⟩) (Nat.le_refl _) _) (Nat.le_succ _) _ _ _ _ _ _
    · have j := HI.out.2.2 hc1 (by omega)
      have c3 : 12 ≤ mo := by omega
      have c4 : 12 < mo + 1 := by omega
      have HJ := Lib.hid j
      clear j m0 m1 m2 m3 m4 m5 fz HI
      obtain ⟨V2, hV2⟩ : ∃ V2, V2 = V.drewN nq := ⟨_, rfl⟩
      have hb2 : Below w.heap.size w V2 := by rw [hV2]; exact below_drewN HV.out.2.1 _
      have hg0 : V2.heap[w.heap.size]? = some (.cells (Ca.momC y mo (d + n) wd' h mi) 111 (0, 0)) := by rw [hV2]; exact HV.out.2.2.1
      have hg1 : V2.heap[w.heap.size + 1]? = some (.cells (Ca.momC 0 0 0 0 0 0) 111 (0, 0)) := by rw [hV2]; exact HV.out.2.2.2.1
      have hlt : w.heap.size < V2.heap.size := (Array.getElem?_eq_some_iff.1 hg0).1
      have hlt1 : w.heap.size + 1 < V2.heap.size := (Array.getElem?_eq_some_iff.1 hg1).1
      rw [← hV2]
      have HB := Lib.hid hb2
      clear hV2 hb2 HV
      obtain ⟨⟨m0, m1, m2, m3, m4, m5⟩, fz⟩ := Ca.mom_cells hg0
      have f0 := fz 0
      have f1 := fz 1
      have f2 := fz 2
      obtain ⟨⟨r0, r1, r2, r3, r4, r5⟩, gz⟩ := Ca.mom_cells hg1
      have z0 := gz 0
      have z1 := gz 1
      have z2 := gz 2
      have z3 := gz 3
      have z4 := gz 4
      have z5 := gz 5
      have HG0 : ((((V2.setCell ⟨w.heap.size, 2, none⟩ (.int .i64 1)).setCell ⟨w.heap.size, 1, none⟩ (.int .i64 (mo + 1))).setCell ⟨w.heap.size, 1, none⟩ (.int .i64 1)).setCell ⟨w.heap.size, 0, none⟩ (.int .i64 (y + 1))).heap[w.heap.size]? = some (.cells (Ca.momC (y + 1) 1 1 wd' h mi) 111 (0, 0)) :=
        heap_setCell_same _ _ 0 _ _ _ (heap_setCell_same _ _ 1 _ _ _ (heap_setCell_same _ _ 1 _ _ _ (heap_setCell_same _ _ 2 _ _ _ hg0)))
      clear hg0 hg1 fz gz
      have hX : ((((V2.setCell ⟨w.heap.size, 2, none⟩ (.int .i64 1)).setCell ⟨w.heap.size, 1, none⟩ (.int .i64 (mo + 1))).setCell ⟨w.heap.size, 1, none⟩ (.int .i64 1)).setCell ⟨w.heap.size, 0, none⟩ (.int .i64 (y + 1))).heap[w.heap.size]? = some (.cells (Ca.momC (y + 1) 1 1 wd' h mi) 111 (0, 0)) := HG0
      obtain ⟨⟨q0, q1, q2, q3, q4, q5⟩, _⟩ := Ca.mom_cells hX
      clear hX
      go_wp2_with fail
      refine bodyPost_ret (v := Ca.mom (y + 1) 1 1 wd' h mi) ?_ rfl ⟨_, _, _, _, rfl, HJ.out, ?_⟩
      · rw [Ca.results_c1 rfl]
        go_simp
      · exact below_mom6 ((((HB.out.setCell (p := ⟨w.heap.size, 2, none⟩) (Nat.le_refl _) _).setCell (p := ⟨w.heap.size, 1, none⟩) (Nat.le_refl _) _).setCell (p := ⟨w.heap.size, 1, none⟩) (Nat.le_refl _) _).setCell (p := ⟨w.heap.size, 0, none⟩) (Nat.le_refl _) _) (Nat.le_succ _) _ _ _ _ _ _
end Go.Proofs.YtkkanggkbbmfnaaGreatDoor.Fi
