/- an image is read: image's Restore -/
import Derived.Test.YtcodjknhnhdkfaaGreatDoorBr27
import Derived.Test.YtcodjknhnhdkfaaGreatDoorBr29
import Derived.Test.YtcodjknhnhdkfaaGreatDoorBr10
import Derived.Test.YtcodjknhnhdkfaaGreatDoorBr02
namespace Go.Proofs.YtcodjknhnhdkfaaGreatDoor.Im
open Go.RowKit Go.Lib Wn Rf By Cm
set_option linter.unusedVariables false
set_option linter.unusedSectionVars false
set_option maxRecDepth 20000
theorem text_size' {s : ByteArray} {m : Nat} (h : (textB s).length ≤ m) : s.size ≤ m := by
  unfold textB at h
  rw [List.length_append] at h
  have e : s.data.toList.length = s.size := Array.length_toList
  omega
theorem row_each' : ∀ {l : List ByteArray} {m : Nat}, (Sp.rowB l).length ≤ m → ∀ d ∈ l, d.size ≤ m
  | [], m, _ => fun d hd => by cases hd
  | x :: l, m, h => by
    simp only [Sp.rowB, List.flatMap_cons, List.length_append] at h
    intro d hd
    rcases List.mem_cons.1 hd with rfl | hd
    · exact text_size' (by omega)
    · exact row_each' (l := l) (m := m) (by show (l.flatMap textB).length ≤ m; omega) d hd
theorem job_sizes {x : Jb} {m : Nat} (h : (jobB x).length ≤ m) : (∀ d ∈ x.sp.ds, d.size ≤ m) ∧ x.sp.nm.size ≤ m ∧ x.sp.tn.size ≤ m ∧ (Sp.rowB x.sp.ds).length ≤ m := by
  unfold jobB Sp.specB Sp.headB Sp.tailB at h
  simp only [List.length_append] at h
  exact ⟨row_each' (l := x.sp.ds) (m := m) (by omega), text_size' (by omega), text_size' (by omega), by omega⟩
theorem flat_each {xs : List Jb} {m : Nat} (h : (xs.flatMap jobB).length ≤ m) : ∀ x ∈ xs, (jobB x).length ≤ m := by
  induction xs with
  | nil => exact fun x hx => by cases hx
  | cons y xs ih =>
    simp only [List.flatMap_cons, List.length_append] at h
    intro x hx
    rcases List.mem_cons.1 hx with rfl | hx
    · omega
    · exact ih (by omega) x hx
theorem pair_of : ∀ {l : List K}, (∀ i (h : i + 1 < l.length), l[i] < l[i + 1]) → l.Pairwise (· < ·)
  | [], _ => List.Pairwise.nil
  | [x], _ => List.pairwise_singleton _ _
  | x :: y :: l, h => by
    have ih := pair_of (l := y :: l) fun i hi => by
      have := h (i + 1) (by simpa using hi)
      simpa using this
    have hxy : x < y := by have := h 0 (by simp); simpa using this
    refine List.Pairwise.cons (fun z hz => ?_) ih
    rcases List.mem_cons.1 hz with rfl | hz
    · exact hxy
    · exact List.lt_trans hxy ((List.pairwise_cons.1 ih).1 z hz)
theorem Alike.names {xs js : List Jb} (h : Alike xs js) : js.map nmK = xs.map nmK := by
  refine List.ext_getElem (by rw [List.length_map, List.length_map, h.1]) fun i h1 h2 => ?_
  rw [List.getElem_map, List.getElem_map]
  rw [List.length_map] at h1 h2
  have := h.2 i xs[i] js[i] (List.getElem?_eq_getElem h2) (List.getElem?_eq_getElem h1)
  unfold nmK
  rw [this.nm]
theorem rise_srt {xs js : List Jb} (h : Alike xs js) (hr : Sp.riseB (xs.map fun x => x.sp.nm) = true) : (js.map nmK).Pairwise (· < ·) := by
  rw [h.names]
  have hR : Sp.Rises (xs.map fun x => x.sp.nm) := by
    unfold Sp.riseB at hr
    exact (@of_decide_eq_true _ (Classical.propDecidable _) (by simpa using hr))
  refine pair_of fun i hi => ?_
  rw [List.length_map] at hi
  have := hR i (by rw [List.length_map]; exact hi)
  rw [List.getElem_map, List.getElem_map] at this ⊢
  exact this
/-- what is told of a scheduler that is whole -/
theorem Sd.sq {S : Nat → Nat → Prop} {w : World} {sb mb gb rb wb lb : Nat} {jb : K → Nat} {now each : Int} {order : Nat} {ns : List DgB.Id} {js : List Jb} {m : Nat} (h : Sd S w sb mb gb rb wb lb jb now each order ns js m) (hs : (js.map nmK).Pairwise (· < ·)) (hl : js.length ≤ 1000) : Sq w sb mb wb jb now each order js where
  row := ⟨_, _, _, h.core.row⟩
  now := by
    obtain ⟨T, ⟨ab, sv, f, q, _⟩, _⟩ := h.t
    obtain ⟨cur, h1, _, h3, _⟩ := q.obj
    exact (cellj h1 h3).1
  map := h.core.map
  job j hj := by
    have q := h.core.job j hj
    exact ⟨q.obj, q.ds, q.name, q.few⟩
  srt := hs
  few := hl
/-- what an image's Restore answers -/
def ImR (w : World) (l : List UInt8) (e : Ending) (w' : World) : Prop :=
  (∃ er : Int, er ≠ 0 ∧ e = .returned (.tuple #[.pointer none, .int .i64 er]) ∧ Below w.heap.size w w') ∨
  ∃ (sb mb wb : Nat) (jb : K → Nat) (now : Int) (each order : Nat) (js : List Jb), e = .returned (.tuple #[.pointer (some ⟨sb, 0, none⟩), .int .i64 0]) ∧ Sq w' sb mb wb jb now ((each : Nat) : Int) order js ∧ l = imgB now each order js ∧ (∀ j ∈ js, j.wf ∧ j.med) ∧ Sp.W64 now ∧ each ≤ 128 ∧ U64 order ∧ (js.flatMap jobB).length ≤ 3000 ∧ Below w.heap.size w w'
theorem endE_zero {l : List UInt8} {er : Int} (h : endE l er = 0) : er = 0 ∧ l = [] := by
  unfold endE at h
  by_cases he : er = 0
  · rw [if_neg (by simp [he])] at h
    by_cases hl : l = []
    · exact ⟨he, hl⟩
    · rw [if_neg hl] at h; cases h
  · rw [if_pos he] at h; exact absurd h he
set_option maxHeartbeats 8000000 in
theorem Restore_im (a : Option Addr) (n c : Nat) (l : List UInt8) (w : World) (hl : IsB w a n c l) (hlen : l.length ≤ 3000) (hg : Cn.Gl w) : Calls Tryz.prog 5 #[.slice a n c] w (ImR w l) := by
  have hrd := read_any a n c l w hl (by omega)
  have H := Lib.hid (And.intro hlen hg)
  clear hl hlen hg
  have hmf : ∀ (fn : Fn) (first cap : Array Value) (w : World), (Instr.makeFunc fn first cap).run Tryz.prog w = .ok (.func fn first cap) w := fun _ _ _ _ => rfl
  go_enter Tryz.func5, Tryz.ntmps5
  go_wp2_with fail
  refine hrd.mono ?_
  rintro e w1 ⟨rb, rfl, hrb, hr1, hb1⟩
  clear hrd
  have h2 := int_r rb l 0 w1 hr1
  have H1 := Lib.hid (And.intro hrb hb1)
  clear hrb hr1 hb1
  go_wp2_with fail
  refine h2.mono ?_
  rintro e w2 ⟨now, l2, e2, rfl, hwn, hr2, hA2, hk2⟩
  clear h2
  have h3 := num_r rb l2 e2 w2 hr2
  have H2 := Lib.hid (And.intro hwn (And.intro hA2.ar hk2))
  clear hwn hr2 hA2 hk2
  go_wp2_with fail
  refine h3.mono ?_
  rintro e w3 ⟨x, l3, e3, rfl, hx, hr3, hA3, hk3, -⟩
  clear h3
  have h4 := num_r rb l3 e3 w3 hr3
  obtain ⟨ev, hev⟩ : ∃ ev : Nat, ev = min x 129 := ⟨_, rfl⟩
  have e1 : min (x : Int) 129 = ((ev : Nat) : Int) := by omega
  have hw1 : IntKind.i64.wrap ((ev : Nat) : Int) = ((ev : Nat) : Int) := IntWalk.i64_in _ (by omega)
  have H3 := Lib.hid (And.intro hx (And.intro hA3.ar (And.intro hk3 hev)))
  clear hx hr3 hA3 hk3 hev
  go_wp2_with fail
  refine h4.mono ?_
  rintro e w4 ⟨order, l4, e4, rfl, hu4, hr4, hA4, hk4, -⟩
  clear h4 e1 hw1
  have h5 := get_j rb 128 l4 e4 w4 hr4 (by decide)
  have H4 := Lib.hid (And.intro hu4 (And.intro hA4.ar hk4))
  clear hu4 hr4 hA4 hk4
  go_wp2_with fail
  refine h5.mono ?_
  rintro e w5 ⟨v, xs, l5, e5, rfl, hga, hxl, hr5, hA5, hk5, hz5, hxs⟩
  clear h5
  obtain ⟨ao, co, rfl⟩ := hga.shape
  have h6 := end_any rb l5 e5 w5 hr5
  obtain ⟨n, hn⟩ : ∃ n, n = xs.length := ⟨_, rfl⟩
  rw [← hn] at hga hxl
  have hb5 : Below w.heap.size w w5 := by
    have hA : Ar rb w1 w5 := ((H2.out.2.1.trans H3.out.2.1).trans H4.out.2.1).trans hA5
    exact H1.out.2.trans (hA.below H1.out.1 H1.out.2.size)
  have H5 := Lib.hid (And.intro hga (And.intro hxl (And.intro hk5 (And.intro hxs (And.intro hb5 hn)))))
  rw [← hn]
  clear hga hxl hr5 hA5 hk5 hz5 hxs hb5 hn
  go_wp2_with fail
  refine h6.mono ?_
  rintro e w6 ⟨rfl, rfl⟩
  clear h6
  obtain ⟨en, hen⟩ : ∃ en, en = endE l5 e5 := ⟨_, rfl⟩
  rw [← hen]
  by_cases he : en = 0
  · obtain ⟨he5, hl5⟩ := endE_zero (hen.symm.trans he)
    subst he
    obtain ⟨q4, t5⟩ := H5.out.2.2.1 he5
    obtain ⟨q3, t4⟩ := H4.out.2.2 q4
    obtain ⟨q2, t3⟩ := H3.out.2.2.1 q3
    obtain ⟨_, t2⟩ := H2.out.2.2 q2
    have hL : l = Sp.zz now ++ (uvarint x ++ (uvarint order ++ (uvarint xs.length ++ xs.flatMap jobB))) := by rw [t2, t3, t4, t5, hl5, List.append_nil]
    have hfl : (xs.flatMap jobB).length ≤ 3000 := by
      have := H.out.1
      rw [hL] at this
      simp only [List.length_append] at this
      omega
    obtain ⟨hJ, hAh⟩ := H5.out.1.js
    have hbj := flat_each hfl
    have hre := Restore_any w5 now ((ev : Nat) : Int) order ao n co xs hJ (fun z hz => by
      have q := job_sizes (hbj z hz)
      exact ⟨fun d hd => by have := q.1 d hd; omega, by omega, by omega, (H5.out.2.2.2.1 z hz).2.1⟩) H5.out.2.1 (H.out.2.old H5.out.2.2.2.2.1)
    have H6 := Lib.hid (And.intro hL (And.intro hfl (And.intro hJ hbj)))
    clear hL hfl hJ hbj hAh q4 q3 q2 t5 t4 t3 t2 hen he5 hl5
    go_wp2_with fail
    refine hre.mono ?_
    clear hre
    rintro e w7 (⟨er, hne, rfl, hb7⟩ | ⟨sb, mb, gb, rb', wb, lb, jb, S, js, rfl, hs, hal, hch, hb7, h0, h128, htk⟩)
    · have HB := Lib.hid hb7
      clear hb7
      go_wp2_with fail
      refine bodyPost_ret (results_tmp2 rfl _ _ _) rfl ?_
      exact .inl ⟨er, hne, rfl, H5.out.2.2.2.2.1.trans (HB.out.mono H5.out.2.2.2.2.1.size)⟩
    · have hri := rise_any (c := co) ((H6.out.2.2.1.nrow).old hb7) (by have := H5.out.2.1; omega)
      have H7 := Lib.hid (And.intro hs (And.intro hal (And.intro hch (And.intro hb7 (And.intro h128 htk)))))
      clear hs hal hch hb7 h0 h128 htk
      go_wp2_with fail
      refine hri.mono ?_
      clear hri
      obtain ⟨ri, hrv⟩ : ∃ ri, ri = Sp.riseB (xs.map fun x => x.sp.nm) := ⟨_, rfl⟩
      rw [← hrv]
      rintro e w8 ⟨rfl, hb8⟩
      have HB := Lib.hid (And.intro hb8 hrv)
      clear hb8 hrv
      have hbf : Below w.heap.size w w8 := by
        have h5 := H5.out.2.2.2.2.1
        have h7 := H7.out.2.2.2.1
        exact h5.trans ((h7.trans (HB.out.1.mono h7.size)).mono h5.size)
      have HF := Lib.hid hbf
      clear hbf
      cases ri with
      | false =>
        go_wp2_with fail
        refine bodyPost_ret (results_tmp2 rfl _ _ _) rfl ?_
        exact .inl ⟨2, by decide, rfl, HF.out⟩
      | true =>
        go_wp2_with fail
        refine bodyPost_ret (results_tmp2 rfl _ _ _) rfl ?_
        obtain ⟨hs, hal, hch, hb7, h128, htk⟩ := H7.out
        have hev := H3.out.2.2.2
        have hxe : x = ev := by omega
        have hsrt := rise_srt hal HB.out.2.symm
        have hjl : js.length = xs.length := hal.1.symm
        have hxn := H5.out.2.2.2.2.2
        have hx128 := H5.out.2.1
        refine .inr ⟨sb, mb, wb, jb, now, ev, order, js, rfl, (hs.old HB.out.1).sq hsrt (by omega), ?_, hal.ok fun z hz => ?_, H2.out.1, by omega, H4.out.1, ?_, HF.out⟩
        · unfold imgB
          rw [H6.out.1, hal.bytes, hjl, hxe]
        · have k1 := chk_sizes (hch z hz)
          have k2 := job_sizes (H6.out.2.2.2 z hz)
          have k3 := H5.out.2.2.2.1 z hz
          exact ⟨k3.1, ⟨fun d hd => by have := k1.2.2.1 d hd; omega, k1.1, k1.2.1, by have := k3.2.1; omega, by have := k1.2.2.2; omega, by have := k2.2.2.2; omega⟩, by have := k3.2.2; omega⟩
        · rw [hal.bytes]; exact H6.out.2.1
  · have HB := Lib.hid H5.out.2.2.2.2.1
    clear hen
    go_wp2_with fail
    refine bodyPost_ret (results_tmp2 rfl _ _ _) rfl ?_
    exact .inl ⟨en, he, rfl, HB.out⟩
end Go.Proofs.YtcodjknhnhdkfaaGreatDoor.Im
namespace Go.Proofs.YtcodjknhnhdkfaaGreatDoor.Im
open Go.RowKit Go.Lib Go.Maps
set_option linter.unusedVariables false
set_option maxRecDepth 200000
def wcn (n : Nat) : Array Value := #[.int .i64 0, .int .i64 0, .map none] ++ Array.replicate n (.map none)
theorem run_zeroW (w : World) : (zeroValue 99).run Tryz.prog w = .ok (.agg (wcn 449)) w := by kernel_rfl
theorem run_boxW (C : Array Value) (w : World) : (Instr.box 99 (.agg C)).run Tryz.prog w = .ok (.pointer (some ⟨w.heap.size, 0, none⟩)) (w.alloc (.cells C 99)) := by kernel_rfl
theorem wcn_zero : ∃ Z : Array Value, (∀ w, (zeroValue 99).run Tryz.prog w = .ok (.agg Z) w) ∧ Z.size = 452 ∧ Z ≠ #[] := by
  have h1 : (wcn 449).size = 452 := by unfold wcn; simp
  exact ⟨_, run_zeroW, h1, fun e => by rw [e] at h1; simp at h1⟩
theorem run_makeMapW (W : World) : (Instr.makeMap 94 none).run Tryz.prog W = .ok (.map (some W.heap.size)) (W.alloc (.map #[] 0)) := by kernel_rfl
theorem run_makeMapJ (W : World) : (Instr.makeMap 66 none).run Tryz.prog W = .ok (.map (some W.heap.size)) (W.alloc (.map #[] 0)) := by kernel_rfl
theorem whNew_any (w : World) : Calls Tryz.prog 26 #[.int .i64 0, .int .i64 128] w fun e w' => ∃ wb, e = .returned (.tuple #[.pointer (some ⟨wb, 0, none⟩), .int .i64 0]) ∧ w'.cell? ⟨wb, 0, none⟩ = some (.int .i64 0) ∧ w.heap.size ≤ wb ∧ Below w.heap.size w w' := by
  have hi : Calls Tryz.prog 50 #[.int .i64 0] w fun e w' => e = .returned (.bool true) ∧ w' = w := by
    go_enter Tryz.func50, Tryz.ntmps50
    go_wp2
    go_ret
    exact ⟨rfl, rfl⟩
  have hmm := run_makeMapW
  have hbo := run_boxW
  obtain ⟨Z, hz, hZ1, hZ2⟩ := wcn_zero
  have hZ4 : ¬ Z.size < 2 := by omega
  have hZ5 : ¬ Z.size < 3 := by omega
  have HZ := Lib.hid hZ1
  clear hZ1
  go_enter Tryz.func26, Tryz.ntmps26
  go_wp2_with fail
  refine hi.mono ?_
  rintro e w1 ⟨rfl, rfl⟩
  go_wp2_with fail
  refine bodyPost_ret (results_tmp2 rfl _ _ _) rfl ?_
  obtain ⟨C, hCe⟩ : ∃ C, C = (((Z.setIfInBounds 0 (.int .i64 0)).setIfInBounds 1 (.int .i64 128)).setIfInBounds 2 (.map (some w1.heap.size))) := ⟨_, rfl⟩
  have hC : C[0]? = some (.int .i64 0) := by
    have := HZ.out
    rw [hCe, Array.getElem?_setIfInBounds_ne (by omega), Array.getElem?_setIfInBounds_ne (by omega), Array.getElem?_setIfInBounds_self_of_lt (by omega)]
  rw [← hCe]
  have g2 := MapKept.heap_alloc (w1.alloc (.map #[] 0)) (.cells C 99)
  have z1 : (w1.alloc (.map #[] 0)).heap.size = w1.heap.size + 1 := by simp
  rw [z1] at g2
  refine ⟨w1.heap.size + 1, by simp, ?_, by omega, ((Below.refl _ w1).alloc (Nat.le_refl _) _).alloc (by omega) _⟩
  rw [cell_of_row _ _ _ _ _ _ g2.1]
  exact hC
theorem mt_sq {w : World} {sb mb wb : Nat} {now each : Int} {g r l : Value} (h1 : w.heap[sb]? = some (.cells #[.int .i64 each, .int .u64 0, .map (some mb), g, r, .pointer (some ⟨wb, 0, none⟩), l] 72 (0, 0)))
    (h2 : w.cell? ⟨wb, 0, none⟩ = some (.int .i64 now)) (h3 : Mq w mb 0 (fun _ => none)) : Sq w sb mb wb (fun _ => 0) now each 0 [] where
  row := ⟨g, r, l, h1⟩
  now := h2
  map := h3.congr fun k _ => by simp [jf]
  job j hj := by simp at hj
  srt := List.Pairwise.nil
  few := by simp
theorem qNew_9 (w : World) : Calls Tryz.prog 27 #[.int .i64 9] w fun e w' => (∃ p, e = .returned (.tuple #[.pointer (some p), .int .i64 0])) ∧ Below w.heap.size w w' := by
  have hi : Calls Tryz.prog 51 #[.int .i64 9] w fun e w' => e = .returned (.bool true) ∧ w' = w := by
    go_enter Tryz.func51, Tryz.ntmps51
    go_wp2
    go_ret
    exact ⟨rfl, rfl⟩
  go_enter Tryz.func27, Tryz.ntmps27
  go_wp2_with fail
  refine hi.mono ?_
  rintro e w1 ⟨rfl, rfl⟩
  go_wp2_with fail
  refine bodyPost_ret (results_tmp2 rfl _ _ _) rfl ?_
  exact ⟨⟨⟨w1.heap.size, 0, none⟩, by simp⟩, (Below.refl _ _).alloc (Nat.le_refl _) _⟩
theorem dgNew_x (w : World) : Calls Tryz.prog 28 #[] w fun e w' => (∃ p, e = .returned (.pointer (some p))) ∧ Below w.heap.size w w' := by
  go_enter Tryz.func28, Tryz.ntmps28
  go_wp2_with fail
  go_ret
  exact ⟨⟨_, rfl⟩, (Below.refl _ _).alloc (Nat.le_refl _) _⟩
theorem rdNew_x (w : World) : Calls Tryz.prog 29 #[] w fun e w' => (∃ p, e = .returned (.pointer (some p))) ∧ Below w.heap.size w w' := by
  go_enter Tryz.func29, Tryz.ntmps29
  go_wp2_with fail
  go_ret
  exact ⟨⟨_, rfl⟩, (Below.refl _ _).alloc (Nat.le_refl _) _⟩
def IsNew (w w' : World) (v : Value) : Prop := ∃ sb mb wb, v = .tuple #[.pointer (some ⟨sb, 0, none⟩), .int .i64 0] ∧ Sq w' sb mb wb (fun _ => 0) 0 9 0 [] ∧ Below w.heap.size w w'
set_option maxHeartbeats 1000000 in
theorem New_9 (w : World) : Calls Tryz.prog 7 #[.int .i64 0, .int .i64 9] w fun e w' => ∃ v, e = .returned v ∧ IsNew w w' v := by
  have hmm := run_makeMapJ
  have hw := whNew_any w
  go_enter Tryz.func7, Tryz.ntmps7
  go_wp2_with fail
  refine hw.mono ?_
  rintro e w1 ⟨wb, rfl, c1, hwb, b1⟩
  have H1 := Lib.hid (And.intro c1 (And.intro hwb b1))
  have hq := qNew_9 w1
  clear hw c1 hwb b1
  go_wp2_with fail
  refine hq.mono ?_
  rintro e w2 ⟨⟨pq, rfl⟩, b2⟩
  have H2 := Lib.hid b2
  clear hq b2
  obtain ⟨Y, hY⟩ : ∃ Y, Y = w2.alloc (.map #[] 0) := ⟨_, rfl⟩
  have hd := dgNew_x Y
  go_wp2_with fail
  rw [← hY]
  refine hd.mono ?_
  rintro e w3 ⟨⟨pd, rfl⟩, b3⟩
  have HY := Lib.hid hY
  have H3 := Lib.hid b3
  have hr := rdNew_x w3
  clear hY hd b3
  go_wp2_with fail
  refine hr.mono ?_
  rintro e w4 ⟨⟨pr, rfl⟩, b4⟩
  have H4 := Lib.hid b4
  clear hr b4
  go_wp2_with fail
  refine bodyPost_ret (results_tmp2 rfl _ _ _) rfl ?_
  obtain ⟨c1, hwb, b1⟩ := H1.out
  have b2 := H2.out
  have b3 := H3.out
  have b4 := H4.out
  have hY := HY.out
  have bY : Below w2.heap.size w2 Y := by rw [hY]; exact (Below.refl _ _).alloc (Nat.le_refl _) _
  have mY : Mq Y w2.heap.size 0 (fun _ => none) := by rw [hY]; exact Mv.mp_made w2
  obtain ⟨Z, hZ⟩ : ∃ Z, Z = w4.alloc (.cells #[.int .i64 9, .int .u64 0, .map (some w2.heap.size), .pointer (some pd), .pointer (some pr), .pointer (some ⟨wb, 0, none⟩), .pointer (some pq)] 72) := ⟨_, rfl⟩
  rw [← hZ]
  have bZ : Below w4.heap.size w4 Z := by rw [hZ]; exact (Below.refl _ _).alloc (Nat.le_refl _) _
  have r4 : Z.heap[w4.heap.size]? = some (.cells #[.int .i64 9, .int .u64 0, .map (some w2.heap.size), .pointer (some pd), .pointer (some pr), .pointer (some ⟨wb, 0, none⟩), .pointer (some pq)] 72 (0, 0)) := by rw [hZ]; exact heap_alloc_new w4 _
  have t1 := b2.trans (bY.mono b2.size)
  have t2 := t1.trans (b3.mono t1.size)
  have t3 := t2.trans (b4.mono t2.size)
  have t4 := t3.trans (bZ.mono t3.size)
  have s1 := World.block_lt_of_cell? _ _ c1
  have u1 := b3.trans (b4.mono b3.size)
  have u2 := u1.trans (bZ.mono u1.size)
  refine ⟨_, by simp, w4.heap.size, w2.heap.size, wb, rfl, mt_sq r4 ((t4.cell (p := ⟨wb, 0, none⟩) s1).trans c1) (mY.kept (u2.block _ mY.lt)), b1.trans (t4.mono b1.size)⟩
theorem img0 : imgB 0 9 0 [] = [0, 9, 0, 0] := by
  have u0 : uvarint 0 = [0] := by unfold uvarint; rfl
  have u9 : uvarint 9 = [9] := by unfold uvarint; rfl
  have z0 : Sp.zz 0 = [0] := u0
  unfold imgB
  rw [z0, u9, u0]
  simp [u0]
theorem lives19_any (w : World) : Calls Tryz.prog 4 #[] w fun e w' => e = .returned (.bool true) ∧ Below w.heap.size w w' := by
  have hn := New_9 w
  go_enter Tryz.func4, Tryz.ntmps4
  go_wp2_with fail
  refine hn.mono ?_
  rintro e w1 ⟨v, rfl, sb, mb, wb, rfl, hs, b1⟩
  have ho := Of_any (each := 9) hs (fun j hj => by simp at hj) (by unfold Sp.W64; decide) (by decide) (by unfold Rf.U64; decide) (by simp)
  have hib0 : imgB 0 9 0 [] = [0, 9, 0, 0] := img0
  rw [hib0] at ho
  have H1 := Lib.hid b1
  clear hn hs b1 hib0
  go_wp2_with fail
  refine ho.mono ?_
  rintro e w2 ⟨a, n, c, rfl, hib, b2⟩
  have hb := H1.out.trans (b2.mono H1.out.size)
  have hst := Rf.str_of hib
  have heq : (([0, 9, 0, 0] : List UInt8).toArray.toList == [0, 9, 0, 0]) = true := by decide
  have HB := Lib.hid hb
  clear ho b2 hb hib
  go_wp2_with fail
  go_ret
  exact ⟨rfl, HB.out⟩
end Go.Proofs.YtcodjknhnhdkfaaGreatDoor.Im
namespace Go.Proofs.YtcodjknhnhdkfaaGreatDoor.Im
open Go.RowKit Go.Lib By Ht
set_option linter.unusedVariables false
set_option maxRecDepth 20000
attribute [local go_sem] Oper.semAt_some
set_option maxHeartbeats 4000000 in
theorem reads_law (a : Option Addr) (n c : Nat) (l : List UInt8) (w : World) (hg : Cn.Gl w) (hl : IsB w a n c l) : Calls Tryz.prog 3 #[.slice a n c] w fun e w' => e = .returned (.bool true) ∧ Below w.heap.size w w' := by
  have hmix : Tryz.prog.follows .mixedOrders = true := by kernel_rfl
  have hlv := lives19_any w
  have hnl := hl.1
  have HL := Lib.hid (And.intro hl (And.intro hnl hg))
  clear hl hnl hg
  go_enter Tryz.func3, Tryz.ntmps3
  go_wp2_with fail
  refine hlv.mono ?_
  rintro e w1 ⟨rfl, hb1⟩
  have H1 := Lib.hid hb1
  clear hlv hb1
  by_cases hbig : 3000 < n
  · have hbx : (3000 : Int) < ((n : Nat) : Int) := by omega
    have hlv2 := lives19_any w1
    go_wp2_with fail
    refine hlv2.mono ?_
    rintro e w2 ⟨rfl, hb2⟩
    have H2 := Lib.hid (H1.out.trans (hb2.mono H1.out.size))
    clear hlv2 hb2
    go_wp2_with fail
    go_ret
    exact ⟨rfl, H2.out⟩
  · have hbx : ¬ (3000 : Int) < ((n : Nat) : Int) := by omega
    have hre := Restore_im a n c l w1 (HL.out.1.old H1.out) (by have := HL.out.2.1; omega) (HL.out.2.2.old H1.out)
    go_wp2_with fail
    refine hre.mono ?_
    clear hre
    rintro e w2 (⟨er, hne, rfl, hb2⟩ | ⟨sb, mb, wb, jb, now, each, order, js, rfl, hq, hL, hok, hwn, he, hu, hlen, hb2⟩)
    · have H2 := Lib.hid (H1.out.trans (hb2.mono H1.out.size))
      clear hb2
      go_wp2_with fail
      go_ret
      exact ⟨by first | rfl | simp, H2.out⟩
    · have hbw : Below w.heap.size w w2 := H1.out.trans (hb2.mono H1.out.size)
      have hib := HL.out.1.old hbw
      have hst : ∀ X, Below w2.heap.size w2 X → (convert 22 9 (.slice a n c)).run Tryz.prog X = .ok (.string ⟨l.toArray⟩) X := fun X hX => Rf.str_of (hib.old hX)
      have hof := Of_any (hq.old (Below.refl _ _).drew) hok hwn (by omega) hu (by omega)
      rw [← hL] at hof
      have HO := Lib.hid (And.intro hof hbw)
      have HS := Lib.hid hst
      clear hof hbw hib hq hL hok hwn he hu hlen hb2 hst
      go_wp2_with fail
      refine begin' 99 (fun ZZ => Below w2.heap.size w2 ZZ) hmix ((Below.refl _ w2).drew) (fun hS0 => ?_)
      refine Ht.takeN (i := 0) ⟨some 22, _, _, _, _, _⟩ (.pointer (some ⟨sb, 0, none⟩)) rfl (by decide) (by kernel_rfl) (by kernel_rfl) (by kernel_rfl) (by kernel_rfl) hS0 (Or.inl ⟨by rfl, by (intro X hX; go_simp)⟩) ?_
      simp only [Act.put, List.setIfInBounds_toArray, List.set_cons_zero, List.set_cons_succ]
      refine Ht.takeN (i := 3) ⟨some 25, _, _, _, _, _⟩ (.slice a n c) rfl (by decide) (by kernel_rfl) (by kernel_rfl) (by kernel_rfl) (by kernel_rfl) hS0 (Or.inl ⟨by rfl, by (intro X hX; go_simp)⟩) ?_
      simp only [Act.put, List.setIfInBounds_toArray, List.set_cons_zero, List.set_cons_succ]
      refine Ht.takeN (i := 4) ⟨some 26, _, _, _, _, _⟩ (.string ⟨l.toArray⟩) rfl (by decide) (by kernel_rfl) (by kernel_rfl) (by kernel_rfl) (by kernel_rfl) hS0 (Or.inl ⟨by rfl, by (intro X hX; have := HS.out X hX; go_simp)⟩) ?_
      simp only [Act.put, List.setIfInBounds_toArray, List.set_cons_zero, List.set_cons_succ]
      refine Ht.step (i := 1) ⟨some 23, _, _, _, _, _⟩ rfl (by kernel_rfl) (by rfl) (fun K hK => ?_)
      refine Ht.enter 6 #[.pointer (some ⟨sb, 0, none⟩)] (by have hen := fun args w => enters_of (P := Tryz.prog) Tryz.func6 (by kernel_rfl) rfl args w; go_simp) (HO.out.1) ?_
      rintro e W3 ⟨a3, n3, c3, rfl, hib3, hb3⟩
      have hS1 : Below w2.heap.size w2 W3 := hS0.trans hb3
      refine ⟨_, rfl, hK _ _ (fun hn => hS1) (fun hnx => ?_)⟩
      clear hK K hnx
      try simp only [Act.put, List.setIfInBounds_toArray, List.set_cons_zero, List.set_cons_succ]
      refine Ht.step (i := 2) ⟨some 24, _, _, _, _, _⟩ rfl (by kernel_rfl) (by rfl) (fun K hK => ?_)
      have hs1 := Rf.str_of hib3
      go_simp
      refine hK _ _ (fun hn => hS1) (fun hnx => ?_)
      clear hK K hnx
      try simp only [Act.put, List.setIfInBounds_toArray, List.set_cons_zero, List.set_cons_succ]
      refine Ht.step (i := 5) ⟨some 27, _, _, _, _, _⟩ rfl (by kernel_rfl) (by rfl) (fun K hK => ?_)
      go_simp
      refine hK _ _ (fun hn => hS1) (fun hnx => ?_)
      clear hK K hnx
      try simp only [Act.put, List.setIfInBounds_toArray, List.set_cons_zero, List.set_cons_succ]
      refine Ht.step (i := 6) ⟨some 2, _, _, _, _, _⟩ rfl (by kernel_rfl) (by rfl) (fun K hK => ?_)
      go_simp
      refine hK _ _ (fun hn => hS1) (fun hnx => ?_)
      clear hK K hnx
      try simp only [Act.put, List.setIfInBounds_toArray, List.set_cons_zero, List.set_cons_succ]
      refine done (by kernel_rfl) ?_
      have HE := Lib.hid (HO.out.2.trans (hS1.mono HO.out.2.size))
      clear hS0 hS1 hib3 hb3
      go_wp2_with fail
      go_ret
      exact ⟨by first | rfl | simp, HE.out⟩
end Go.Proofs.YtcodjknhnhdkfaaGreatDoor.Im
