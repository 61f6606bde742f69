
/- a new scheduler: the chapter's example, where nothing else of its parts is wanted -/
import Derived.Test.YtcodjknhnhdkfaaDoorIm9
namespace Go.Proofs.YtcodjknhnhdkfaaDoor.Im
open Go.RowKit Go.Lib Go.Maps
set_option linter.unusedVariables false
set_option maxRecDepth 200000
def wcn (n : Nat) : Array Value := #[.int .i64 0, .int .i64 0, .map none] ++ Array.replicate n (.map none)
theorem run_zeroW (w : World) : (zeroValue 90).run Tryd.prog w = .ok (.agg (wcn 449)) w := by kernel_rfl
theorem run_boxW (C : Array Value) (w : World) : (Instr.box 90 (.agg C)).run Tryd.prog w = .ok (.pointer (some ⟨w.heap.size, 0, none⟩)) (w.alloc (.cells C 90)) := by kernel_rfl
theorem wcn_zero : ∃ Z : Array Value, (∀ w, (zeroValue 90).run Tryd.prog w = .ok (.agg Z) w) ∧ Z.size = 452 ∧ Z ≠ #[] := by
  have h1 : (wcn 449).size = 452 := by unfold wcn; simp
  exact ⟨_, run_zeroW, h1, fun e => by rw [e] at h1; simp at h1⟩
theorem run_makeMapW (W : World) : (Instr.makeMap 85 none).run Tryd.prog W = .ok (.map (some W.heap.size)) (W.alloc (.map #[] 0)) := by kernel_rfl
theorem run_makeMapJ (W : World) : (Instr.makeMap 67 none).run Tryd.prog W = .ok (.map (some W.heap.size)) (W.alloc (.map #[] 0)) := by kernel_rfl
theorem whNew_any (w : World) : Calls Tryd.prog 23 #[.int .i64 0, .int .i64 128] w fun e w' => ∃ wb, e = .returned (.tuple #[.pointer (some ⟨wb, 0, none⟩), .int .i64 0]) ∧ w'.cell? ⟨wb, 0, none⟩ = some (.int .i64 0) ∧ w.heap.size ≤ wb ∧ Below w.heap.size w w' := by
  have hi : Calls Tryd.prog 37 #[.int .i64 0] w fun e w' => e = .returned (.bool true) ∧ w' = w := by
    go_enter Tryd.func37, Tryd.ntmps37
    go_wp2
    go_ret
    exact ⟨rfl, rfl⟩
  have hmm := run_makeMapW
  have hbo := run_boxW
  obtain ⟨Z, hz, hZ1, hZ2⟩ := wcn_zero
  have hZ4 : ¬ Z.size < 2 := by omega
  have hZ5 : ¬ Z.size < 3 := by omega
  have HZ := Lib.hid hZ1
  clear hZ1
  go_enter Tryd.func23, Tryd.ntmps23
  go_wp2_with fail
  refine hi.mono ?_
  rintro e w1 ⟨rfl, rfl⟩
  go_wp2_with fail
  refine bodyPost_ret (results_tmp2 rfl _ _ _) rfl ?_
  obtain ⟨C, hCe⟩ : ∃ C, C = (((Z.setIfInBounds 0 (.int .i64 0)).setIfInBounds 1 (.int .i64 128)).setIfInBounds 2 (.map (some w1.heap.size))) := ⟨_, rfl⟩
  have hC : C[0]? = some (.int .i64 0) := by
    have := HZ.out
    rw [hCe, Array.getElem?_setIfInBounds_ne (by omega), Array.getElem?_setIfInBounds_ne (by omega), Array.getElem?_setIfInBounds_self_of_lt (by omega)]
  rw [← hCe]
  have g2 := MapKept.heap_alloc (w1.alloc (.map #[] 0)) (.cells C 90)
  have z1 : (w1.alloc (.map #[] 0)).heap.size = w1.heap.size + 1 := by simp
  rw [z1] at g2
  refine ⟨w1.heap.size + 1, by simp, ?_, by omega, ((Below.refl _ w1).alloc (Nat.le_refl _) _).alloc (by omega) _⟩
  rw [cell_of_row _ _ _ _ _ _ g2.1]
  exact hC
theorem mt_sq {w : World} {sb mb wb : Nat} {now each : Int} {g r l : Value} (h1 : w.heap[sb]? = some (.cells #[.int .i64 each, .int .u64 0, .map (some mb), g, r, .pointer (some ⟨wb, 0, none⟩), l] 73 (0, 0)))
    (h2 : w.cell? ⟨wb, 0, none⟩ = some (.int .i64 now)) (h3 : Mq w mb 0 (fun _ => none)) : Sq w sb mb wb (fun _ => 0) now each 0 [] where
  row := ⟨g, r, l, h1⟩
  now := h2
  map := h3.congr fun k _ => by simp [jf]
  job j hj := by simp at hj
  srt := List.Pairwise.nil
  few := by simp
theorem qNew_9 (w : World) : Calls Tryd.prog 24 #[.int .i64 9] w fun e w' => (∃ p, e = .returned (.tuple #[.pointer (some p), .int .i64 0])) ∧ Below w.heap.size w w' := by
  have hi : Calls Tryd.prog 38 #[.int .i64 9] w fun e w' => e = .returned (.bool true) ∧ w' = w := by
    go_enter Tryd.func38, Tryd.ntmps38
    go_wp2
    go_ret
    exact ⟨rfl, rfl⟩
  go_enter Tryd.func24, Tryd.ntmps24
  go_wp2_with fail
  refine hi.mono ?_
  rintro e w1 ⟨rfl, rfl⟩
  go_wp2_with fail
  refine bodyPost_ret (results_tmp2 rfl _ _ _) rfl ?_
  exact ⟨⟨⟨w1.heap.size, 0, none⟩, by simp⟩, (Below.refl _ _).alloc (Nat.le_refl _) _⟩
theorem dgNew_x (w : World) : Calls Tryd.prog 25 #[] w fun e w' => (∃ p, e = .returned (.pointer (some p))) ∧ Below w.heap.size w w' := by
  go_enter Tryd.func25, Tryd.ntmps25
  go_wp2_with fail
  go_ret
  exact ⟨⟨_, rfl⟩, (Below.refl _ _).alloc (Nat.le_refl _) _⟩
theorem rdNew_x (w : World) : Calls Tryd.prog 26 #[] w fun e w' => (∃ p, e = .returned (.pointer (some p))) ∧ Below w.heap.size w w' := by
  go_enter Tryd.func26, Tryd.ntmps26
  go_wp2_with fail
  go_ret
  exact ⟨⟨_, rfl⟩, (Below.refl _ _).alloc (Nat.le_refl _) _⟩
def IsNew (w w' : World) (v : Value) : Prop := ∃ sb mb wb, v = .tuple #[.pointer (some ⟨sb, 0, none⟩), .int .i64 0] ∧ Sq w' sb mb wb (fun _ => 0) 0 9 0 [] ∧ Below w.heap.size w w'
set_option maxHeartbeats 1000000 in
theorem New_9 (w : World) : Calls Tryd.prog 9 #[.int .i64 0, .int .i64 9] w fun e w' => ∃ v, e = .returned v ∧ IsNew w w' v := by
  have hmm := run_makeMapJ
  have hw := whNew_any w
  go_enter Tryd.func9, Tryd.ntmps9
  go_wp2_with fail
  refine hw.mono ?_
  rintro e w1 ⟨wb, rfl, c1, hwb, b1⟩
  have H1 := Lib.hid (And.intro c1 (And.intro hwb b1))
  have hq := qNew_9 w1
  clear hw c1 hwb b1
  go_wp2_with fail
  refine hq.mono ?_
  rintro e w2 ⟨⟨pq, rfl⟩, b2⟩
  have H2 := Lib.hid b2
  clear hq b2
  obtain ⟨Y, hY⟩ : ∃ Y, Y = w2.alloc (.map #[] 0) := ⟨_, rfl⟩
  have hd := dgNew_x Y
  go_wp2_with fail
  rw [← hY]
  refine hd.mono ?_
  rintro e w3 ⟨⟨pd, rfl⟩, b3⟩
  have HY := Lib.hid hY
  have H3 := Lib.hid b3
  have hr := rdNew_x w3
  clear hY hd b3
  go_wp2_with fail
  refine hr.mono ?_
  rintro e w4 ⟨⟨pr, rfl⟩, b4⟩
  have H4 := Lib.hid b4
  clear hr b4
  go_wp2_with fail
  refine bodyPost_ret (results_tmp2 rfl _ _ _) rfl ?_
  obtain ⟨c1, hwb, b1⟩ := H1.out
  have b2 := H2.out
  have b3 := H3.out
  have b4 := H4.out
  have hY := HY.out
  have bY : Below w2.heap.size w2 Y := by rw [hY]; exact (Below.refl _ _).alloc (Nat.le_refl _) _
  have mY : Mq Y w2.heap.size 0 (fun _ => none) := by rw [hY]; exact Mv.mp_made w2
  obtain ⟨Z, hZ⟩ : ∃ Z, Z = w4.alloc (.cells #[.int .i64 9, .int .u64 0, .map (some w2.heap.size), .pointer (some pd), .pointer (some pr), .pointer (some ⟨wb, 0, none⟩), .pointer (some pq)] 73) := ⟨_, rfl⟩
  rw [← hZ]
  have bZ : Below w4.heap.size w4 Z := by rw [hZ]; exact (Below.refl _ _).alloc (Nat.le_refl _) _
  have r4 : Z.heap[w4.heap.size]? = some (.cells #[.int .i64 9, .int .u64 0, .map (some w2.heap.size), .pointer (some pd), .pointer (some pr), .pointer (some ⟨wb, 0, none⟩), .pointer (some pq)] 73 (0, 0)) := by rw [hZ]; exact heap_alloc_new w4 _
  have t1 := b2.trans (bY.mono b2.size)
  have t2 := t1.trans (b3.mono t1.size)
  have t3 := t2.trans (b4.mono t2.size)
  have t4 := t3.trans (bZ.mono t3.size)
  have s1 := World.block_lt_of_cell? _ _ c1
  have u1 := b3.trans (b4.mono b3.size)
  have u2 := u1.trans (bZ.mono u1.size)
  refine ⟨_, by simp, w4.heap.size, w2.heap.size, wb, rfl, mt_sq r4 ((t4.cell (p := ⟨wb, 0, none⟩) s1).trans c1) (mY.kept (u2.block _ mY.lt)), b1.trans (t4.mono b1.size)⟩
theorem img0 : imgB 0 9 0 [] = [0, 9, 0, 0] := by
  have u0 : uvarint 0 = [0] := by unfold uvarint; rfl
  have u9 : uvarint 9 = [9] := by unfold uvarint; rfl
  have z0 : Sp.zz 0 = [0] := u0
  unfold imgB
  rw [z0, u9, u0]
  simp [u0]
theorem lives19_any (w : World) : Calls Tryd.prog 4 #[] w fun e w' => e = .returned (.bool true) ∧ Below w.heap.size w w' := by
  have hn := New_9 w
  go_enter Tryd.func4, Tryd.ntmps4
  go_wp2_with fail
  refine hn.mono ?_
  rintro e w1 ⟨v, rfl, sb, mb, wb, rfl, hs, b1⟩
  have ho := Of_any (each := 9) hs (fun j hj => by simp at hj) (by unfold Sp.W64; decide) (by decide) (by unfold Rf.U64; decide) (by simp)
  have hib0 : imgB 0 9 0 [] = [0, 9, 0, 0] := img0
  rw [hib0] at ho
  have H1 := Lib.hid b1
  clear hn hs b1 hib0
  go_wp2_with fail
  refine ho.mono ?_
  rintro e w2 ⟨a, n, c, rfl, hib, b2⟩
  have hb := H1.out.trans (b2.mono H1.out.size)
  have hst := Rf.str_of hib
  have heq : (([0, 9, 0, 0] : List UInt8).toArray.toList == [0, 9, 0, 0]) = true := by decide
  have HB := Lib.hid hb
  clear ho b2 hb hib
  go_wp2_with fail
  go_ret
  exact ⟨rfl, HB.out⟩
end Go.Proofs.YtcodjknhnhdkfaaDoor.Im
