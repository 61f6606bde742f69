/- may a job be: mayBe -/
import Derived.Test.YtcodjknhnhdkfaaGreatDoorBr06
import Derived.Test.YtcodjknhnhdkfaaGreatDoorBr10
import Derived.Test.YtcodjknhnhdkfaaGreatDoorBr05
import Derived.Test.YtcodjknhnhdkfaaGreatDoorBrSp8
import Derived.Test.YtcodjknhnhdkfaaGreatDoorBrImJ
import Derived.Test.YtcodjknhnhdkfaaGreatDoorBr23
namespace Go.Proofs.YtcodjknhnhdkfaaGreatDoor.Im
open Go.RowKit Go.Lib
set_option linter.unusedVariables false
set_option maxRecDepth 20000
/-- one or the other -/
def Ans (p : Prop) (w : World) (e : Ending) (w' : World) : Prop := (∃ b, e = .returned (.bool b) ∧ (b = true → p)) ∧ Below w.heap.size w w'
set_option maxHeartbeats 4000000 in
theorem mayBe_any (j : Jb) (order : Nat) {w : World} (hk : Sp.Okc j.sp w) (hg : Cn.Gl w) :
    Calls Tryz.prog 38 #[.agg j.cs.toArray, .int .u64 ((order : Nat) : Int)] w (Ans (Sp.chkE j.sp = 0) w) := by
  obtain ⟨C, hC⟩ : ∃ C, C = j.cs.toArray := ⟨_, rfl⟩
  rw [← hC]
  have hbo := run_box
  obtain ⟨V, hV⟩ : ∃ V, V = w.alloc (.cells C 42) := ⟨_, rfl⟩
  have hb1 : Below w.heap.size w V := by rw [hV]; exact (Below.refl _ _).alloc (Nat.le_refl _) _
  have hx0 : V.heap[w.heap.size]? = some (.cells C 42 (0, 0)) := by rw [hV]; exact heap_alloc_new w _
  have hlt := lt_of_block hx0
  have hr0 : V.rangeAt w.heap.size 0 j.sp.cells.toList := fun i v hv => by
    have hi : i < j.sp.cells.toList.length := (List.getElem?_eq_some_iff.1 hv).1
    rw [cell_of_row V _ _ _ _ _ hx0, Nat.zero_add, hC]
    simp only [Jb.cs, List.getElem?_toArray]
    rw [List.getElem?_append_left hi]
    exact hv
  have hi0 : (Tryz.prog.info? 40).map (·.size) = some j.sp.cells.toList.length := info_spec21
  have hch := Sp.Check_any j.sp (hk.old hb1) (hg.old hb1)
  obtain ⟨st, hst⟩ : ∃ x, x = j.st := ⟨_, rfl⟩
  obtain ⟨du, hdu⟩ : ∃ x, x = j.du := ⟨_, rfl⟩
  obtain ⟨fl, hfl⟩ : ∃ x, x = j.fl := ⟨_, rfl⟩
  obtain ⟨cr, hcr⟩ : ∃ x, x = j.cr := ⟨_, rfl⟩
  obtain ⟨rn, hrn⟩ : ∃ x, x = j.rn := ⟨_, rfl⟩
  obtain ⟨ms, hms⟩ : ∃ x, x = j.ms := ⟨_, rfl⟩
  obtain ⟨od, hod⟩ : ∃ x, x = j.od := ⟨_, rfl⟩
  have cs : ∀ X, Below V.heap.size V X → X.cell? ⟨w.heap.size, 11, none⟩ = some (.int .i64 st) ∧ X.cell? ⟨w.heap.size, 12, none⟩ = some (.int .i64 du) ∧ X.cell? ⟨w.heap.size, 14, none⟩ = some (.int .i64 fl) ∧ X.cell? ⟨w.heap.size, 17, none⟩ = some (.int .u64 ((od : Nat) : Int)) ∧ X.cell? ⟨w.heap.size, 18, none⟩ = some (.int .i64 cr) ∧ X.cell? ⟨w.heap.size, 19, none⟩ = some (.int .i64 rn) ∧ X.cell? ⟨w.heap.size, 20, none⟩ = some (.int .i64 ms) := fun X hX => by
    have e := (hX.block _ hlt).trans hx0
    rw [hC] at e
    rw [hst, hdu, hfl, hod, hcr, hrn, hms]
    exact ⟨(cellj e rfl).1, (cellj e rfl).1, (cellj e rfl).1, (cellj e rfl).1, (cellj e rfl).1, (cellj e rfl).1, (cellj e rfl).1⟩
  have HB := Lib.hid (And.intro hb1 hC)
  have HS := Lib.hid cs
  clear hb1 hx0 hlt hk hg cs hst hdu hfl hcr hrn hms hod hC
  go_enter Tryz.func38, Tryz.ntmps38
  go_upto_region 1 with fail
  rw [← hV]
  have HV := Lib.hid hV
  clear hV
  go_wp2_with (refine wpList_load_mid rfl 40 _ rfl w.heap.size 0 rfl j.sp.cells.toList _ hr0 Tryz.underlying40 rfl hi0 ?_)
  refine hch.mono ?_
  rintro e w1 ⟨rfl, hb2⟩
  obtain ⟨d11, d12, d14, d17, d18, d19, d20⟩ := HS.out w1 hb2
  have H2 := Lib.hid (HB.out.1.trans (hb2.mono HB.out.1.size))
  clear hb2 hr0 hi0 hch hbo
  obtain ⟨er, her⟩ : ∃ er : Nat, er = Sp.chkE j.sp := ⟨_, rfl⟩
  rw [← her]
  have HER := Lib.hid her
  clear her
  by_cases h0 : ((er : Nat) : Int) = 0
  rotate_left
  · go_wp2_with fail
    go_ret
    exact ⟨⟨_, rfl, fun e => by first | exact absurd e (by decide) | (have := HER.out; omega)⟩, H2.out⟩
  by_cases h1 : 0 ≤ st
  rotate_left
  · go_wp2_with fail
    go_ret
    exact ⟨⟨_, rfl, fun e => by first | exact absurd e (by decide) | (have := HER.out; omega)⟩, H2.out⟩
  by_cases h2 : st < 8
  rotate_left
  · go_wp2_with fail
    go_ret
    exact ⟨⟨_, rfl, fun e => by first | exact absurd e (by decide) | (have := HER.out; omega)⟩, H2.out⟩
  by_cases h3 : 0 ≤ du
  rotate_left
  · go_wp2_with fail
    go_ret
    exact ⟨⟨_, rfl, fun e => by first | exact absurd e (by decide) | (have := HER.out; omega)⟩, H2.out⟩
  by_cases h4 : du ≤ 1099511627776
  rotate_left
  · go_wp2_with fail
    go_ret
    exact ⟨⟨_, rfl, fun e => by first | exact absurd e (by decide) | (have := HER.out; omega)⟩, H2.out⟩
  by_cases h5 : 0 ≤ fl
  rotate_left
  · go_wp2_with fail
    go_ret
    exact ⟨⟨_, rfl, fun e => by first | exact absurd e (by decide) | (have := HER.out; omega)⟩, H2.out⟩
  by_cases h6 : 0 ≤ cr
  rotate_left
  · go_wp2_with fail
    go_ret
    exact ⟨⟨_, rfl, fun e => by first | exact absurd e (by decide) | (have := HER.out; omega)⟩, H2.out⟩
  by_cases h7 : 0 ≤ rn
  rotate_left
  · go_wp2_with fail
    go_ret
    exact ⟨⟨_, rfl, fun e => by first | exact absurd e (by decide) | (have := HER.out; omega)⟩, H2.out⟩
  by_cases h8 : 0 ≤ ms
  rotate_left
  · go_wp2_with fail
    go_ret
    exact ⟨⟨_, rfl, fun e => by first | exact absurd e (by decide) | (have := HER.out; omega)⟩, H2.out⟩
  go_wp2_with fail
  go_ret
  exact ⟨⟨_, rfl, fun e => by first | exact absurd e (by decide) | (have := HER.out; omega)⟩, H2.out⟩
end Go.Proofs.YtcodjknhnhdkfaaGreatDoor.Im
namespace Go.Proofs.YtcodjknhnhdkfaaGreatDoor.Im
open Go.RowKit Go.Lib Hp
set_option linter.unusedVariables false
set_option linter.unusedSectionVars false
set_option maxRecDepth 20000
theorem run_makeMapSJ (W : World) : (Instr.makeMap 66 none).run Tryz.prog W = .ok (.map (some W.heap.size)) (W.alloc (.map #[] 0)) := by kernel_rfl
/-- a new scheduler's blocks -/
def Sn (sb mb gb rb lb : Nat) (SW : Nat → Prop) : Nat → Nat → Prop := fun i => match i with
  | 0 => fun k => k = sb ∨ k = mb
  | 1 => fun k => k = gb
  | 2 => fun k => k = rb
  | 3 => SW
  | 4 => fun k => k = lb
  | _ => fun _ => False
def NewIs (w : World) (now each : Int) (e : Ending) (w' : World) : Prop :=
  (∃ er : Int, er ≠ 0 ∧ e = .returned (.tuple #[.pointer none, .int .i64 er]) ∧ Below w.heap.size w w') ∨
  ∃ sb mb gb rb wb lb S, e = .returned (.tuple #[.pointer (some ⟨sb, 0, none⟩), .int .i64 0]) ∧ Sd S w' sb mb gb rb wb lb (fun _ => 0) now each 0 [] [] 0 ∧ (∀ i k, S i k → w.heap.size ≤ k) ∧ Below w.heap.size w w' ∧ 0 ≤ each ∧ each ≤ 128 ∧ Wh.Tk now
set_option maxHeartbeats 2000000 in
theorem New_any (w : World) (now each : Int) : Calls Tryz.prog 7 #[.int .i64 now, .int .i64 each] w (NewIs w now each) := by
  have hmm := run_makeMapSJ
  by_cases hn : Wh.Tk now
  · have hw := Wh.new_any w hn (most := 128) (by decide) (by decide)
    go_enter Tryz.func7, Tryz.ntmps7
    go_wp2_with fail
    refine hw.mono ?_
    rintro e w1 ⟨wb, SW, rfl, hv, hS, b1⟩
    have H1 := Lib.hid (And.intro hv (And.intro hS b1))
    clear hw hv hS b1
    by_cases he : 0 ≤ each ∧ each ≤ 128
    · have hq := Qt.New_ok each he w1
      go_wp2_with fail
      refine hq.mono ?_
      rintro e w2 ⟨rfl, hlq, b2⟩
      have H2 := Lib.hid (And.intro hlq b2)
      clear hq hlq b2
      obtain ⟨Y, hY⟩ : ∃ Y, Y = w2.alloc (.map #[] 0) := ⟨_, rfl⟩
      have hd := DgB.new_any Y
      go_wp2_with fail
      rw [← hY]
      refine hd.mono ?_
      rintro e w3 ⟨rfl, hg, b3⟩
      have H3 := Lib.hid (And.intro hg b3)
      have hr := Nx.new_row w3
      have HY := Lib.hid hY
      clear hY hd hg b3
      go_wp2_with fail
      refine hr.mono ?_
      rintro e w4 ⟨rfl, hrv, b4⟩
      have H4 := Lib.hid (And.intro hrv b4)
      clear hr hrv b4
      go_wp2_with fail
      refine bodyPost_ret (results_tmp2 rfl _ _ _) rfl ?_
      obtain ⟨hv, hS, b1⟩ := H1.out
      obtain ⟨hlq, b2⟩ := H2.out
      obtain ⟨hg, b3⟩ := H3.out
      obtain ⟨hrv, b4⟩ := H4.out
      have hY := HY.out
      have bY : Below w2.heap.size w2 Y := by rw [hY]; exact (Below.refl _ _).alloc (Nat.le_refl _) _
      have zY : Y.heap.size = w2.heap.size + 1 := by rw [hY]; simp
      have mY : Mq Y w2.heap.size 0 (fun _ => none) := by rw [hY]; exact Mv.mp_made w2
      obtain ⟨Z, hZ⟩ : ∃ Z, Z = w4.alloc (.cells #[.int .i64 each, .int .u64 0, .map (some w2.heap.size), .pointer (some ⟨Y.heap.size, 0, none⟩), .pointer (some ⟨w3.heap.size, 0, none⟩), .pointer (some ⟨wb, 0, none⟩), .pointer (some ⟨w1.heap.size, 0, none⟩)] 72) := ⟨_, rfl⟩
      rw [← hZ]
      have bZ : Below w4.heap.size w4 Z := by rw [hZ]; exact (Below.refl _ _).alloc (Nat.le_refl _) _
      have zZ : Z.heap.size = w4.heap.size + 1 := by rw [hZ]; simp
      have rZ : Z.heap[w4.heap.size]? = some (.cells #[.int .i64 each, .int .u64 0, .map (some w2.heap.size), .pointer (some ⟨Y.heap.size, 0, none⟩), .pointer (some ⟨w3.heap.size, 0, none⟩), .pointer (some ⟨wb, 0, none⟩), .pointer (some ⟨w1.heap.size, 0, none⟩)] 72 (0, 0)) := by rw [hZ]; exact heap_alloc_new w4 _
      have t4 := b4.trans (bZ.mono b4.size)
      have t3 := b3.trans (t4.mono b3.size)
      have t2 := bY.trans (t3.mono bY.size)
      have t1 := b2.trans (t2.mono b2.size)
      have s1 := b1.size
      have s2 := hlq.size w1.heap.size rfl
      have s3 : Y.heap.size < w3.heap.size := by obtain ⟨mv, nb, ob, ub, q⟩ := hg; exact q.size Y.heap.size rfl
      have s4 := hrv.size w3.heap.size rfl
      have hSW := hv.size
      refine .inr ⟨w4.heap.size, w2.heap.size, Y.heap.size, w3.heap.size, wb, w1.heap.size, Sn w4.heap.size w2.heap.size Y.heap.size w3.heap.size w1.heap.size SW, by simp, ⟨⟨?_, ?_⟩, ⟨rZ, .inl rfl, .inr rfl, ?_, fun j hj => by simp at hj, List.nodup_nil⟩, ⟨⟨_, Gd.kept hg t4.size fun k hk => ?_⟩, Nat.le_refl _⟩, ⟨[], hrv.kept bZ.size fun k hk => ?_, Nat.le_refl _⟩, ⟨[], hv.kept t1.size fun k hk => t1.block k (hSW k hk), Nat.le_refl _⟩, ⟨_, 0, _, _, Lv.kept ⟨_, _, _, hlq, Nat.le_refl _⟩ t2.size fun k hk => ?_, Nat.le_refl _⟩⟩, ?_, b1.trans (t1.mono s1), he.1, he.2, hn⟩
      · intro i j k hi hj
        have hSk := hSW k
        match i, j, hi, hj with
        | 0, 0, _, _ | 1, 1, _, _ | 2, 2, _, _ | 3, 3, _, _ | 4, 4, _, _ => rfl
        | 0, 1, hi, hj | 0, 2, hi, hj | 0, 4, hi, hj | 1, 0, hi, hj | 1, 2, hi, hj | 1, 4, hi, hj | 2, 0, hi, hj | 2, 1, hi, hj | 2, 4, hi, hj | 4, 0, hi, hj | 4, 1, hi, hj | 4, 2, hi, hj => simp only [Sn] at hi hj; omega
        | 0, 3, hi, hj | 1, 3, hi, hj | 2, 3, hi, hj | 4, 3, hi, hj => have := hSk hj; simp only [Sn] at hi; omega
        | 3, 0, hi, hj | 3, 1, hi, hj | 3, 2, hi, hj | 3, 4, hi, hj => have := hSk hi; simp only [Sn] at hj; omega
      · intro i k hi
        have hSk := hSW k
        match i, hi with
        | 0, hi | 1, hi | 2, hi | 4, hi => simp only [Sn] at hi; omega
        | 3, hi => have := hSk hi; have := t1.size; omega
      · refine (mY.kept (t3.block _ mY.lt)).congr fun k _ => ?_
        simp [jf]
      · have e : k = Y.heap.size := hk
        exact t4.block k (by omega)
      · have e : k = w3.heap.size := hk
        exact bZ.block k (by omega)
      · have e : k = w1.heap.size := hk
        exact t2.block k (by omega)
      · intro i k hi
        match i, hi with
        | 0, hi | 1, hi | 2, hi | 4, hi => simp only [Sn] at hi; omega
        | 3, hi => exact hS k hi
    · have hq := Qt.New_no each he w1
      have HE := Lib.hid he
      clear he
      go_wp2_with fail
      refine hq.mono ?_
      rintro e w2 ⟨rfl, rfl⟩
      clear hq
      go_wp2_with fail
      refine bodyPost_ret (results_tmp2 rfl _ _ _) rfl ?_
      exact .inl ⟨1, by decide, rfl, H1.out.2.2⟩
  · have hb := Wh.new_bad w (now := now) (most := 128) (.inl (by unfold Wh.Tk at hn; omega))
    clear hn
    go_enter Tryz.func7, Tryz.ntmps7
    go_wp2_with fail
    refine hb.mono ?_
    rintro e w1 ⟨rfl, rfl⟩
    clear hb
    go_wp2_with fail
    refine bodyPost_ret (results_tmp2 rfl _ _ _) rfl ?_
    exact .inl ⟨1, by decide, rfl, Below.refl _ _⟩
end Go.Proofs.YtcodjknhnhdkfaaGreatDoor.Im
namespace Go.Proofs.YtcodjknhnhdkfaaGreatDoor.Im
open Go.RowKit Go.Lib Hp Ht
set_option linter.unusedVariables false
set_option linter.unusedSectionVars false
set_option maxRecDepth 20000
attribute [local go_sem] Oper.semAt_some
def idK (j : Jb) : DgB.Id := (nmK j, false)
theorem idK_of {x y : Jb} (h : Like x y) : idK y = (x.sp.nm.data.toList, false) := by unfold idK nmK; rw [h.nm]
theorem Alike.snoc {l m : List Jb} (h : Alike l m) {x y : Jb} (hl : Like x y) : Alike (l ++ [x]) (m ++ [y]) := by
  refine ⟨by rw [List.length_append, List.length_append, h.1]; rfl, fun i a b ha hb => ?_⟩
  rcases Nat.lt_or_ge i l.length with hi | hi
  · rw [List.getElem?_append_left hi] at ha
    rw [List.getElem?_append_left (by rw [← h.1]; exact hi)] at hb
    exact h.2 i a b ha hb
  · rw [List.getElem?_append_right hi] at ha
    rw [List.getElem?_append_right (by rw [← h.1]; exact hi), ← h.1] at hb
    rcases Nat.eq_zero_or_pos (i - l.length) with e | e
    · rw [e] at ha hb
      simp at ha hb
      rw [← ha, ← hb]; exact hl
    · rw [List.getElem?_eq_none (by simp; omega)] at ha
      cases ha
theorem take_snoc {l : List Jb} {k : Nat} {x : Jb} (h : l[k]? = some x) : l.take (k + 1) = l.take k ++ [x] := by rw [List.take_add_one, h]; rfl
theorem nmB_len {l : List UInt8} (h : Sp.nmB l = true) : l.length ≤ 24 := by
  cases l with
  | nil => simp
  | cons c r =>
    unfold Sp.nmB at h
    simp only [Bool.and_eq_true, decide_eq_true_eq] at h
    simp only [List.length_cons]
    omega
/-- a spec that may be has short texts -/
theorem chk_sizes {x : Sp.Spc} (h : Sp.chkE x = 0) : x.nm.size ≤ 1000 ∧ x.tn.size ≤ 1000 ∧ (∀ d ∈ x.ds, d.size ≤ 24) ∧ x.cr.size ≤ 128 := by
  have sz : ∀ b : ByteArray, b.size = b.data.toList.length := fun b => by simp
  unfold Sp.chkE at h
  split at h
  · cases h
  · rename_i h1
    split at h
    · cases h
    · simp only [Bool.not_eq_false, Bool.and_eq_true] at h1
      refine ⟨?_, ?_, fun d hd => ?_, ?_⟩
      · have := nmB_len h1.1.1; rw [sz]; omega
      · have := nmB_len h1.1.2; rw [sz]; omega
      · have := nmB_len (List.all_eq_true.1 h1.2 d hd); rw [sz]; omega
      · split at h
        · rename_i h2
          have h3 : x.cr.toList = [] := List.isEmpty_iff.1 h2
          rw [Lib.toList_data] at h3
          rw [sz, h3]; simp
        · unfold Sp.chkT at h
          by_cases hp : Cn.parseE x.cr.data.toList ≠ 0
          · rw [if_pos hp] at h
            exact absurd h hp
          · have h4 : Cn.parseE x.cr.data.toList = 0 := Decidable.byContradiction hp
            unfold Cn.parseE at h4
            rw [sz]
            by_cases h5 : 128 < x.cr.data.toList.length
            · rw [if_pos h5] at h4
              cases h4
            · omega
/-- what Restore answers -/
def RestIs (w : World) (xs : List Jb) (now each : Int) (order : Nat) (e : Ending) (w' : World) : Prop :=
  (∃ er : Int, er ≠ 0 ∧ e = .returned (.tuple #[.pointer none, .int .i64 er]) ∧ Below w.heap.size w w') ∨
  ∃ sb mb gb rb wb lb jb S js, e = .returned (.tuple #[.pointer (some ⟨sb, 0, none⟩), .int .i64 0]) ∧ Sd S w' sb mb gb rb wb lb jb now each order (js.map idK) js 384 ∧ Alike xs js ∧ (∀ x ∈ xs, Sp.chkE x.sp = 0) ∧ Below w.heap.size w w' ∧ 0 ≤ each ∧ each ≤ 128 ∧ Wh.Tk now
/-- the order is laid -/
theorem Sd.setOrder {S : Nat → Nat → Prop} {w Y : World} {sb mb gb rb wb lb : Nat} {jb : K → Nat} {now each : Int} {o order : Nat} {ns : List DgB.Id} {js : List Jb} {m : Nat} (h : Sd S w sb mb gb rb wb lb jb now each o ns js m) (hY : Y = w.setCell ⟨sb, 1, none⟩ (.int .u64 ((order : Nat) : Int))) : Sd S Y sb mb gb rb wb lb jb now each order ns js m := by
  have ho : ∀ b, b ≠ sb → Y.heap[b]? = w.heap[b]? := fun b hb => by rw [hY]; exact heap_setCell_other _ _ _ _ hb
  have hz : Y.heap.size = w.heap.size := by rw [hY]; simp [World.setCell]
  have hr : Y.heap[sb]? = some (.cells #[.int .i64 each, .int .u64 order, .map (some mb), .pointer (some ⟨gb, 0, none⟩), .pointer (some ⟨rb, 0, none⟩), .pointer (some ⟨wb, 0, none⟩), .pointer (some ⟨lb, 0, none⟩)] 72 (0, 0)) := by rw [hY]; exact Lib.heap_setCell_same h.core.row _
  have hf : Fr (S 0) w Y := ⟨by rw [hY]; rfl, by rw [hY]; rfl, by rw [hY]; rfl, by omega, fun k hk hn => ho k fun e => hn (e ▸ h.core.sbC)⟩
  have hne := h.core.map.ne h.core.row
  have hc : Core (S 0) Y sb mb gb rb wb lb jb each order js := by
    refine ⟨hr, h.core.sbC, h.core.mbC, h.core.map.kept (ho mb hne), fun j hj => ?_, h.core.nd⟩
    have q := h.core.job j hj
    by_cases eb : jb (nmK j) = sb
    · have := q.obj
      rw [eb, h.core.row] at this
      simp only [Option.some.injEq, Obj.cells.injEq] at this
      have h2 := congrArg Array.size this.1
      have h3 : j.cs.toArray.size = 21 := rfl
      rw [h3] at h2
      simp at h2
    · refine ⟨q.own, (ho _ eb).trans q.obj, Jd.kept' q.ds (q.dep.imp_right fun ⟨g, cur, h1, h2, h3⟩ => ⟨g, h1, ho g fun e => ?_⟩), q.dep.imp_right fun ⟨g, cur, h1, h2, h3⟩ => ⟨g, cur, h1, h2, (ho g fun e => ?_).trans h3⟩, q.name, q.few⟩
      all_goals
        rw [e, h.core.row] at h3
        simp only [Option.some.injEq, Obj.cells.injEq] at h3
        exact absurd h3.2.1 (by decide)
  have := h.setC hf hc (fun k hk => ⟨fun i hi hik => by have := h.fam.dis i 0 k hik hk; omega, by have := h.fam.lt 0 k hk; omega⟩)
  rwa [show put S 0 (S 0) = S from funext fun i => by unfold put; by_cases e : i = 0 <;> simp [e]] at this
set_option maxHeartbeats 8000000 in
theorem Restore_any (w : World) (now each : Int) (order : Nat) (a : Option Addr) (n c : Nat) (xs : List Jb) (hJ : Js w a n xs) (hx : ∀ x ∈ xs, (∀ d ∈ x.sp.ds, d.size ≤ 100000) ∧ x.sp.nm.size ≤ 100000 ∧ x.sp.tn.size ≤ 100000 ∧ x.sp.n ≤ 255) (hn : n ≤ 128) (hg : Cn.Gl w) :
    Calls Tryz.prog 14 #[.int .i64 now, .int .i64 each, .int .u64 ((order : Nat) : Int), .slice a n c] w (RestIs w xs now each order) := by
  have hmix : Tryz.prog.follows .mixedOrders = true := by kernel_rfl
  have hN := New_any w now each
  have H := Lib.hid (And.intro hJ (And.intro hx (And.intro hn hg)))
  clear hJ hx hg
  have hgt : ¬ ((128 : Int) < ((n : Nat) : Int)) := by omega
  go_enter Tryz.func14, Tryz.ntmps14
  go_wp2_with fail
  refine hN.mono ?_
  clear hN
  rintro e w1 (⟨er, hne, rfl, hb1⟩ | ⟨sb, mb, gb, rb, wb, lb, S, rfl, hs1, hS1, hb1, he0, he1, htk⟩)
  · have HB := Lib.hid hb1
    clear hb1
    go_wp2_with fail
    refine bodyPost_ret (results_tmp2 rfl _ _ _) rfl ?_
    exact .inl ⟨er, hne, rfl, HB.out⟩
  · obtain ⟨c1, f1⟩ := cellj (i := 1) hs1.core.row rfl
    have H1 := Lib.hid (And.intro hs1 (And.intro hS1 (And.intro hb1 (And.intro he0 (And.intro he1 htk)))))
    clear hs1 hS1 hb1 he0 he1 htk
    go_upto_region 7 with fail
    obtain ⟨V, hV⟩ : ∃ V, V = w1.setCell ⟨sb, 1, none⟩ (.int .u64 ((order : Nat) : Int)) := ⟨_, rfl⟩
    rw [← hV]
    have hsV := H1.out.1.setOrder hV
    have hbV : Below w.heap.size w V := by
      have hb1 := H1.out.2.2.1
      refine ⟨?_, ?_, ?_, ?_, fun k hk => ?_⟩
      · rw [hV]; exact hb1.os
      · rw [hV]; exact hb1.tape
      · rw [hV]; exact hb1.output
      · rw [hV]; have := hb1.size; simp [World.setCell]; exact this
      · rw [hV, heap_setCell_other _ _ _ _ (fun e => by have e : k = sb := e; have := H1.out.2.1 0 sb H1.out.1.core.sbC; omega)]
        exact hb1.block k hk
    have HV := Lib.hid (And.intro hsV hbV)
    clear hsV hbV hV c1 f1
    go_wp2_with fail
    go_loopw [34] (fun s34 wr => ∃ (k : Nat) (S' : Nat → Nat → Prop) (jb : K → Nat) (js : List Jb), s34 = .int .i64 ((k : Nat) : Int) ∧ k ≤ n ∧ Sd S' wr sb mb gb rb wb lb jb now each order (js.map idK) js (3 * k) ∧ (∀ i x, S' i x → w.heap.size ≤ x) ∧ Below w.heap.size w wr ∧ Alike (xs.take k) js ∧ ∀ x ∈ xs.take k, Sp.chkE x.sp = 0) (fun s34 _ => n - (RowKit.intOf s34).toNat)
    case atStart => exact ⟨0, S, _, [], rfl, Nat.zero_le _, HV.out.1, H1.out.2.1, HV.out.2, by rw [List.take_zero]; exact ⟨rfl, fun i x y h => by simp at h⟩, fun x hx => by simp at hx⟩
    case round =>
      obtain ⟨k, S', jb, js, rfl, hk, hs, hS', hbw, hal, hce⟩ := hrel
      by_cases hlt : k < n
      · have hkl : k < xs.length := by rw [H.out.1.len]; exact hlt
        rcases H.out.1.at' with h0 | ⟨b, rfl, hcell⟩
        · omega
        obtain ⟨x, hx'⟩ : ∃ x, x = xs[k] := ⟨_, rfl⟩
        have hxm : x ∈ xs := by rw [hx']; exact List.getElem_mem _
        obtain ⟨C, hC⟩ : ∃ C, C = x.cs.toArray := ⟨_, rfl⟩
        have hxk : xs[k]? = some x := by rw [hx', List.getElem?_eq_getElem hkl]
        have hCl : C.toList = x.cs := by rw [hC]
        have hbl : b < w.heap.size := range_lt (hcell k hkl) (by rw [Jb.len]; omega)
        have hrg : wr.rangeAt b (k * 21) C.toList := by
          rw [hCl, hx']
          exact range_old (hcell k hkl) hbw hbl
        obtain ⟨Y, hY⟩ : ∃ Y, Y = wr.alloc (.cells C 42) := ⟨_, rfl⟩
        have hbY : Below wr.heap.size wr Y := by rw [hY]; exact (Below.refl _ _).alloc (Nat.le_refl _) _
        have hzY : Y.heap.size = wr.heap.size + 1 := by rw [hY]; simp
        have hYx : Y.heap[wr.heap.size]? = some (.cells C 42 (0, 0)) := by rw [hY]; exact heap_alloc_new wr _
        have hsc := sc_job wr C (by rw [hC]; rfl) (by rw [hCl]; exact x.one)
        rw [← hY] at hsc
        unfold jobZ at hsc
        have hinf : (Tryz.prog.info? 42).map (·.size) = some C.toList.length := by rw [hCl]; exact info_job
        have hCs : C.size = 21 := by rw [hC]; rfl
        have hsY := hs.old hbY
        have hbwY : Below w.heap.size w Y := hbw.trans (hbY.mono hbw.size)
        have hxS : ∀ i, ¬ S' i wr.heap.size := fun i e => by have := hs.fam.lt i _ e; omega
        have hsbn : ¬ ∃ i, 0 < i ∧ S' i sb := fun ⟨i, h0, hi⟩ => by have := hs.fam.dis i 0 sb hi hs.core.sbC; omega
        have hrx : ∀ Z : World, (Fr (fun k => ∃ i, S' i k) Y Z ∧ Z.heap[sb]? = Y.heap[sb]?) → Z.rangeAt wr.heap.size 0 C.toList := fun Z hZ => Cm.range_of ((hZ.1.block _ (by omega) fun ⟨i, e⟩ => hxS i e).trans hYx)
        have hnx : ∀ Z : World, (Fr (fun k => ∃ i, S' i k) Y Z ∧ Z.heap[sb]? = Y.heap[sb]?) → Z.cell? ⟨wr.heap.size, 0, none⟩ = some (.string x.sp.nm) := fun Z hZ => (cellj ((hZ.1.block _ (by omega) fun ⟨i, e⟩ => hxS i e).trans hYx) (by rw [hC]; rfl)).1
        have hgx : ∀ Z : World, (Fr (fun k => ∃ i, S' i k) Y Z ∧ Z.heap[sb]? = Y.heap[sb]?) → Z.cell? ⟨sb, 3, none⟩ = some (.pointer (some ⟨gb, 0, none⟩)) := fun Z hZ => (cellj (hZ.2.trans hsY.core.row) rfl).1
        have hjd : ∀ Z : World, Below w.heap.size w Z → Jd Z x := fun Z hZ => (H.out.1.ds x hxm).old hZ
        obtain ⟨hds, hns, hts, h255⟩ := H.out.2.1 x hxm
        have hok : Sp.Okc x.sp Y.drew := ⟨hjd Y hbwY, by omega, fun d hd => by have := hds d hd; omega, by omega, by omega⟩
        have hmb := mayBe_any x order hok (H.out.2.2.2.old hbwY.drew)
        rw [← hC] at hmb
        obtain ⟨nm, hnm⟩ : ∃ nm, nm = x.sp.nm := ⟨_, rfl⟩
        rw [← hnm] at hnx
        have HK := Lib.hid (And.intro hsY (And.intro hS' (And.intro hbwY (And.intro hal (And.intro hxk (And.intro hC (And.intro hxS (And.intro hsbn (And.intro hjd (And.intro hns (And.intro h255 (And.intro hnm (And.intro hzY hce)))))))))))))
        have HR := Lib.hid (And.intro hrx (And.intro hnx hgx))
        have HMB := Lib.hid hmb
        have hltx : ((k : Nat) : Int) < ((n : Nat) : Int) := by omega
        have hkb : k ≤ 1000000 := by omega
        clear hs hS' hbw hal hce hx' hxk hxm hC hCl hbY hzY hYx hsY hbwY hxS hsbn hjd hds hns hts h255 hok hmb hnm hnx hgx hcell hbl hkl
        go_wp2_with (refine wpList_load_mid rfl 42 _ rfl b (k * 21) rfl C.toList _ hrg Tryz.underlying42 rfl hinf ?_)
        rw [← hY]
        have HY := Lib.hid hY
        clear hY hsc hrg
        refine begin' 20 (fun ZZ => Fr (fun k => ∃ i, S' i k) Y ZZ ∧ ZZ.heap[sb]? = Y.heap[sb]?) hmix ⟨(Fr.refl _ Y).drew, rfl⟩ (fun hS0 => ?_)
        refine Ht.takeD 8 (i := 0) ⟨some 38, _, _, _, _, _⟩ (.agg C.toList.toArray) rfl (by kernel_rfl) (by kernel_rfl) (by decide) (by kernel_rfl) (by kernel_rfl) (by kernel_rfl) hS0 (yieldsIf_load_mid (by rfl) 42 _ rfl wr.heap.size 0 rfl C.toList _ hrx Tryz.underlying42 rfl hinf) ?_
        simp only [Act.put, List.setIfInBounds_toArray, List.set_cons_zero, List.set_cons_succ, Array.toArray_toList]
        refine Ht.takeD 8 (i := 1) ⟨some 39, _, _, _, _, _⟩ (.int .u64 ((order : Nat) : Int)) rfl (by kernel_rfl) (by kernel_rfl) (by decide) (by kernel_rfl) (by kernel_rfl) (by kernel_rfl) hS0 (Or.inl ⟨by rfl, by (intro X hX; go_simp)⟩) ?_
        simp only [Act.put, List.setIfInBounds_toArray, List.set_cons_zero, List.set_cons_succ]
        refine Ht.step (i := 2) ⟨some 40, _, _, _, _, _⟩ rfl (by kernel_rfl) (by rfl) (fun K hK => ?_)
        refine Ht.enter 38 #[.agg C, .int .u64 ((order : Nat) : Int)] (by have hen := fun args w => enters_of (P := Tryz.prog) Tryz.func38 (by kernel_rfl) rfl args w; go_simp) (HMB.out) ?_
        rintro e v1 ⟨⟨bo, rfl, hbc⟩, hb1⟩
        have HBC := Lib.hid hbc
        clear hbc
        have hb1 : Below Y.heap.size Y v1 := ⟨hb1.os, hb1.tape, hb1.output, hb1.size, hb1.block⟩
        have q1 : Fr (fun k => ∃ i, S' i k) Y v1 ∧ v1.heap[sb]? = Y.heap[sb]? := ⟨Fr.of_below hb1, hb1.block sb (HK.out.1.fam.lt 0 sb HK.out.1.core.sbC)⟩
        refine ⟨_, rfl, hK _ _ (fun hn => q1) (fun hnx => ?_)⟩
        clear hK K hnx
        try simp only [Act.put, List.setIfInBounds_toArray, List.set_cons_zero, List.set_cons_succ]
        cases bo
        case false =>
          refine Ht.step (i := 3) ⟨some 41, _, _, _, _, _⟩ rfl (by kernel_rfl) (by rfl) (fun K hK => ?_)
          go_simp
          refine hK _ _ (fun hn => q1) (fun hnx => ?_)
          clear hK K hnx
          try simp only [Act.put, List.setIfInBounds_toArray, List.set_cons_zero, List.set_cons_succ]
          refine Ht.step (i := 4) ⟨some 42, _, _, _, _, _⟩ rfl (by kernel_rfl) (by rfl) (fun K hK => ?_)
          go_simp
          refine hK _ _ (fun hn => q1) (fun hnx => ?_)
          clear hK K hnx
          try simp only [Act.put, List.setIfInBounds_toArray, List.set_cons_zero, List.set_cons_succ]
          refine Ht.takeD 8 (i := 5) ⟨some 43, _, _, _, _, _⟩ (undef) rfl (by kernel_rfl) (by kernel_rfl) (by decide) (by kernel_rfl) (by kernel_rfl) (by kernel_rfl) q1 (Or.inr ⟨by rfl, by rfl⟩) ?_
          simp only [Act.put, List.setIfInBounds_toArray, List.set_cons_zero, List.set_cons_succ]
          refine Ht.takeD 8 (i := 6) ⟨some 44, _, _, _, _, _⟩ (undef) rfl (by kernel_rfl) (by kernel_rfl) (by decide) (by kernel_rfl) (by kernel_rfl) (by kernel_rfl) q1 (Or.inr ⟨by rfl, by rfl⟩) ?_
          simp only [Act.put, List.setIfInBounds_toArray, List.set_cons_zero, List.set_cons_succ]
          refine Ht.takeD 8 (i := 7) ⟨some 45, _, _, _, _, _⟩ (undef) rfl (by kernel_rfl) (by kernel_rfl) (by decide) (by kernel_rfl) (by kernel_rfl) (by kernel_rfl) q1 (Or.inr ⟨by rfl, by rfl⟩) ?_
          simp only [Act.put, List.setIfInBounds_toArray, List.set_cons_zero, List.set_cons_succ]
          refine Ht.takeD 8 (i := 8) ⟨some 46, _, _, _, _, _⟩ (undef) rfl (by kernel_rfl) (by kernel_rfl) (by decide) (by kernel_rfl) (by kernel_rfl) (by kernel_rfl) q1 (Or.inr ⟨by rfl, by rfl⟩) ?_
          simp only [Act.put, List.setIfInBounds_toArray, List.set_cons_zero, List.set_cons_succ]
          refine Ht.takeD 8 (i := 9) ⟨some 47, _, _, _, _, _⟩ (undef) rfl (by kernel_rfl) (by kernel_rfl) (by decide) (by kernel_rfl) (by kernel_rfl) (by kernel_rfl) q1 (Or.inr ⟨by rfl, by rfl⟩) ?_
          simp only [Act.put, List.setIfInBounds_toArray, List.set_cons_zero, List.set_cons_succ]
          refine Ht.takeD 8 (i := 10) ⟨some 48, _, _, _, _, _⟩ (undef) rfl (by kernel_rfl) (by kernel_rfl) (by decide) (by kernel_rfl) (by kernel_rfl) (by kernel_rfl) q1 (Or.inr ⟨by rfl, by rfl⟩) ?_
          simp only [Act.put, List.setIfInBounds_toArray, List.set_cons_zero, List.set_cons_succ]
          refine Ht.takeD 8 (i := 11) ⟨some 49, _, _, _, _, _⟩ (undef) rfl (by kernel_rfl) (by kernel_rfl) (by decide) (by kernel_rfl) (by kernel_rfl) (by kernel_rfl) q1 (Or.inr ⟨by rfl, by rfl⟩) ?_
          simp only [Act.put, List.setIfInBounds_toArray, List.set_cons_zero, List.set_cons_succ]
          refine Ht.takeD 8 (i := 12) ⟨some 50, _, _, _, _, _⟩ (undef) rfl (by kernel_rfl) (by kernel_rfl) (by decide) (by kernel_rfl) (by kernel_rfl) (by kernel_rfl) q1 (Or.inr ⟨by rfl, by rfl⟩) ?_
          simp only [Act.put, List.setIfInBounds_toArray, List.set_cons_zero, List.set_cons_succ]
          refine Ht.takeD 8 (i := 13) ⟨some 51, _, _, _, _, _⟩ (undef) rfl (by kernel_rfl) (by kernel_rfl) (by decide) (by kernel_rfl) (by kernel_rfl) (by kernel_rfl) q1 (Or.inr ⟨by rfl, by rfl⟩) ?_
          simp only [Act.put, List.setIfInBounds_toArray, List.set_cons_zero, List.set_cons_succ]
          refine Ht.step (i := 14) ⟨some 52, _, _, _, _, _⟩ rfl (by kernel_rfl) (by rfl) (fun K hK => ?_)
          go_simp
          refine hK _ _ (fun hn => q1) (fun hnx => ?_)
          clear hK K hnx
          try simp only [Act.put, List.setIfInBounds_toArray, List.set_cons_zero, List.set_cons_succ]
          refine Ht.step (i := 15) ⟨some 53, _, _, _, _, _⟩ rfl (by kernel_rfl) (by rfl) (fun K hK => ?_)
          go_simp
          refine hK _ _ (fun hn => q1) (fun hnx => ?_)
          clear hK K hnx
          try simp only [Act.put, List.setIfInBounds_toArray, List.set_cons_zero, List.set_cons_succ]
          refine Ht.takeD 8 (i := 16) ⟨some 54, _, _, _, _, _⟩ (undef) rfl (by kernel_rfl) (by kernel_rfl) (by decide) (by kernel_rfl) (by kernel_rfl) (by kernel_rfl) q1 (Or.inr ⟨by rfl, by rfl⟩) ?_
          simp only [Act.put, List.setIfInBounds_toArray, List.set_cons_zero, List.set_cons_succ]
          refine Ht.takeD 8 (i := 17) ⟨some 55, _, _, _, _, _⟩ (undef) rfl (by kernel_rfl) (by kernel_rfl) (by decide) (by kernel_rfl) (by kernel_rfl) (by kernel_rfl) q1 (Or.inr ⟨by rfl, by rfl⟩) ?_
          simp only [Act.put, List.setIfInBounds_toArray, List.set_cons_zero, List.set_cons_succ]
          refine Ht.takeD 8 (i := 18) ⟨some 56, _, _, _, _, _⟩ (undef) rfl (by kernel_rfl) (by kernel_rfl) (by decide) (by kernel_rfl) (by kernel_rfl) (by kernel_rfl) q1 (Or.inr ⟨by rfl, by rfl⟩) ?_
          simp only [Act.put, List.setIfInBounds_toArray, List.set_cons_zero, List.set_cons_succ]
          refine Ht.takeD 8 (i := 19) ⟨some 57, _, _, _, _, _⟩ (undef) rfl (by kernel_rfl) (by kernel_rfl) (by decide) (by kernel_rfl) (by kernel_rfl) (by kernel_rfl) q1 (Or.inr ⟨by rfl, by rfl⟩) ?_
          simp only [Act.put, List.setIfInBounds_toArray, List.set_cons_zero, List.set_cons_succ]
          refine Ht.step (i := 20) ⟨some 58, _, _, _, _, _⟩ rfl (by kernel_rfl) (by rfl) (fun K hK => ?_)
          go_simp
          refine hK _ _ (fun hn => absurd rfl hn) (fun hnx => ?_)
          clear hK K hnx
          try simp only [Act.put, List.setIfInBounds_toArray, List.set_cons_zero, List.set_cons_succ]
          refine done (by kernel_rfl) ?_
          have HB := Lib.hid hb1
          clear hb1 q1
          go_wp2_with fail
          refine bodyPost_ret (results_tmp2 rfl _ _ _) rfl ?_
          exact .inl ⟨2, by decide, rfl, HK.out.2.2.1.trans (HB.out.mono HK.out.2.2.1.size)⟩
        case true =>
          refine Ht.step (i := 3) ⟨some 41, _, _, _, _, _⟩ rfl (by kernel_rfl) (by rfl) (fun K hK => ?_)
          go_simp
          refine hK _ _ (fun hn => q1) (fun hnx => ?_)
          clear hK K hnx
          try simp only [Act.put, List.setIfInBounds_toArray, List.set_cons_zero, List.set_cons_succ]
          refine Ht.step (i := 4) ⟨some 42, _, _, _, _, _⟩ rfl (by kernel_rfl) (by rfl) (fun K hK => ?_)
          go_simp
          refine hK _ _ (fun hn => q1) (fun hnx => ?_)
          clear hK K hnx
          try simp only [Act.put, List.setIfInBounds_toArray, List.set_cons_zero, List.set_cons_succ]
          refine Ht.takeD 8 (i := 5) ⟨some 43, _, _, _, _, _⟩ (.pointer (some ⟨sb, 0, none⟩)) rfl (by kernel_rfl) (by kernel_rfl) (by decide) (by kernel_rfl) (by kernel_rfl) (by kernel_rfl) q1 (Or.inl ⟨by rfl, by (intro X hX; go_simp)⟩) ?_
          simp only [Act.put, List.setIfInBounds_toArray, List.set_cons_zero, List.set_cons_succ]
          refine Ht.takeD 8 (i := 6) ⟨some 44, _, _, _, _, _⟩ (.pointer (some ⟨sb, 0, none⟩)) rfl (by kernel_rfl) (by kernel_rfl) (by decide) (by kernel_rfl) (by kernel_rfl) (by kernel_rfl) q1 (Or.inl ⟨by rfl, by (intro X hX; go_simp)⟩) ?_
          simp only [Act.put, List.setIfInBounds_toArray, List.set_cons_zero, List.set_cons_succ]
          refine Ht.takeD 8 (i := 7) ⟨some 45, _, _, _, _, _⟩ (.pointer (some ⟨sb, 3, none⟩)) rfl (by kernel_rfl) (by kernel_rfl) (by decide) (by kernel_rfl) (by kernel_rfl) (by kernel_rfl) q1 (Or.inl ⟨by rfl, by (intro X hX; go_simp)⟩) ?_
          simp only [Act.put, List.setIfInBounds_toArray, List.set_cons_zero, List.set_cons_succ]
          refine Ht.takeD 8 (i := 8) ⟨some 46, _, _, _, _, _⟩ (.pointer (some ⟨gb, 0, none⟩)) rfl (by kernel_rfl) (by kernel_rfl) (by decide) (by kernel_rfl) (by kernel_rfl) (by kernel_rfl) q1 (Or.inl ⟨by rfl, by (intro X hX; have := HR.out.2.2 X hX; go_simp)⟩) ?_
          simp only [Act.put, List.setIfInBounds_toArray, List.set_cons_zero, List.set_cons_succ]
          refine Ht.takeD 8 (i := 9) ⟨some 47, _, _, _, _, _⟩ (.pointer (some ⟨wr.heap.size, 0, none⟩)) rfl (by kernel_rfl) (by kernel_rfl) (by decide) (by kernel_rfl) (by kernel_rfl) (by kernel_rfl) q1 (Or.inl ⟨by rfl, by (intro X hX; go_simp)⟩) ?_
          simp only [Act.put, List.setIfInBounds_toArray, List.set_cons_zero, List.set_cons_succ]
          refine Ht.takeD 8 (i := 10) ⟨some 48, _, _, _, _, _⟩ (.pointer (some ⟨wr.heap.size, 0, none⟩)) rfl (by kernel_rfl) (by kernel_rfl) (by decide) (by kernel_rfl) (by kernel_rfl) (by kernel_rfl) q1 (Or.inl ⟨by rfl, by (intro X hX; go_simp)⟩) ?_
          simp only [Act.put, List.setIfInBounds_toArray, List.set_cons_zero, List.set_cons_succ]
          refine Ht.takeD 8 (i := 11) ⟨some 49, _, _, _, _, _⟩ (.string nm) rfl (by kernel_rfl) (by kernel_rfl) (by decide) (by kernel_rfl) (by kernel_rfl) (by kernel_rfl) q1 (Or.inl ⟨by rfl, by (intro X hX; have := HR.out.2.1 X hX; go_simp)⟩) ?_
          simp only [Act.put, List.setIfInBounds_toArray, List.set_cons_zero, List.set_cons_succ]
          have HB := Lib.hid hb1
          have hnd := node_e (HK.out.1.old hb1) (by have := hlt; omega) nm (by have := HK.out.2.2.2.2.2.2.2.2.2.1; rw [HK.out.2.2.2.2.2.2.2.2.2.2.2.1]; unfold maxLen; omega)
          clear hb1
          refine Ht.step (i := 12) ⟨some 50, _, _, _, _, _⟩ rfl (by kernel_rfl) (by rfl) (fun K hK => ?_)
          refine Ht.enter 39 #[.pointer (some ⟨gb, 0, none⟩), .string nm, .slice none 0 0] (by have hen := fun args w => enters_of (P := Tryz.prog) Tryz.func39 (by kernel_rfl) rfl args w; go_simp) (hnd) ?_
          rintro e v2 ⟨hE, hno⟩
          replace hE := Ent.from HB.out hE
          obtain ⟨er, S2, rfl, hf2, h2⟩ := hE
          have q2 : Fr (fun k => ∃ i, S' i k) Y v2 ∧ v2.heap[sb]? = Y.heap[sb]? := ⟨hf2.mono fun x _ ⟨i, _, e⟩ => ⟨i, e⟩, hf2.block sb (HK.out.1.fam.lt 0 sb HK.out.1.core.sbC) HK.out.2.2.2.2.2.2.2.1⟩
          have HF2 := Lib.hid hf2
          clear hf2
          refine ⟨_, rfl, hK _ _ (fun hn => q2) (fun hnx => ?_)⟩
          clear hK K hnx
          try simp only [Act.put, List.setIfInBounds_toArray, List.set_cons_zero, List.set_cons_succ]
          clear hnd
          by_cases he : er = 0
          rotate_left
          · refine Ht.step (i := 13) ⟨some 51, _, _, _, _, _⟩ rfl (by kernel_rfl) (by rfl) (fun K hK => ?_)
            clear h2 hno
            have hne : (er != 0) = true := by simpa using he
            go_simp
            refine hK _ _ (fun hn => q2) (fun hnx => ?_)
            clear hK K hnx
            try simp only [Act.put, List.setIfInBounds_toArray, List.set_cons_zero, List.set_cons_succ]
            refine Ht.step (i := 14) ⟨some 52, _, _, _, _, _⟩ rfl (by kernel_rfl) (by rfl) (fun K hK => ?_)
            try go_simp
            refine hK _ _ (fun hn => q2) (fun hnx => ?_)
            clear hK K hnx
            try simp only [Act.put, List.setIfInBounds_toArray, List.set_cons_zero, List.set_cons_succ]
            refine Ht.step (i := 15) ⟨some 53, _, _, _, _, _⟩ rfl (by kernel_rfl) (by rfl) (fun K hK => ?_)
            try go_simp
            refine hK _ _ (fun hn => q2) (fun hnx => ?_)
            clear hK K hnx
            try simp only [Act.put, List.setIfInBounds_toArray, List.set_cons_zero, List.set_cons_succ]
            refine Ht.takeD 8 (i := 16) ⟨some 54, _, _, _, _, _⟩ (undef) rfl (by kernel_rfl) (by kernel_rfl) (by decide) (by kernel_rfl) (by kernel_rfl) (by kernel_rfl) q2 (Or.inr ⟨by rfl, by rfl⟩) ?_
            simp only [Act.put, List.setIfInBounds_toArray, List.set_cons_zero, List.set_cons_succ]
            refine Ht.takeD 8 (i := 17) ⟨some 55, _, _, _, _, _⟩ (undef) rfl (by kernel_rfl) (by kernel_rfl) (by decide) (by kernel_rfl) (by kernel_rfl) (by kernel_rfl) q2 (Or.inr ⟨by rfl, by rfl⟩) ?_
            simp only [Act.put, List.setIfInBounds_toArray, List.set_cons_zero, List.set_cons_succ]
            refine Ht.takeD 8 (i := 18) ⟨some 56, _, _, _, _, _⟩ (undef) rfl (by kernel_rfl) (by kernel_rfl) (by decide) (by kernel_rfl) (by kernel_rfl) (by kernel_rfl) q2 (Or.inr ⟨by rfl, by rfl⟩) ?_
            simp only [Act.put, List.setIfInBounds_toArray, List.set_cons_zero, List.set_cons_succ]
            refine Ht.takeD 8 (i := 19) ⟨some 57, _, _, _, _, _⟩ (undef) rfl (by kernel_rfl) (by kernel_rfl) (by decide) (by kernel_rfl) (by kernel_rfl) (by kernel_rfl) q2 (Or.inr ⟨by rfl, by rfl⟩) ?_
            simp only [Act.put, List.setIfInBounds_toArray, List.set_cons_zero, List.set_cons_succ]
            refine Ht.step (i := 20) ⟨some 58, _, _, _, _, _⟩ rfl (by kernel_rfl) (by rfl) (fun K hK => ?_)
            go_simp
            refine hK _ _ (fun hn => absurd rfl hn) (fun hnx => ?_)
            clear hK K hnx
            try simp only [Act.put, List.setIfInBounds_toArray, List.set_cons_zero, List.set_cons_succ]
            refine done (by kernel_rfl) ?_
            go_wp2_with fail
            refine bodyPost_ret (results_tmp2 rfl _ _ _) rfl ?_
            exact .inl ⟨2, by decide, rfl, HK.out.2.2.1.trans (HF2.out.below HK.out.2.2.1.size fun x ⟨i, _, e⟩ => HK.out.2.1 i x e)⟩
          · subst he
            obtain ⟨hs2, h20, h2i⟩ := h2 rfl
            have hnew := hno rfl
            clear h2 hno
            have hbw2 : Below w.heap.size w v2 := HK.out.2.2.1.trans (HF2.out.below HK.out.2.2.1.size fun x ⟨i, _, e⟩ => HK.out.2.1 i x e)
            have hlen : js.length ≤ 128 := by have := HK.out.2.2.2.1.1; rw [← this, List.length_take]; omega
            have hpt := put_any hs2 (by have := hlt; omega) (HK.out.2.2.2.2.2.2.2.2.1 v2 hbw2) (by have := HK.out.2.2.2.2.2.2.2.2.2.2.1; omega) (by omega) (chk_sizes (HBC.out (by trivial))).1 (chk_sizes (HBC.out (by trivial))).2.1 (fun e => hnew (by
              obtain ⟨z, hz, ez⟩ := List.mem_map.1 e
              refine List.mem_map.2 ⟨z, hz, ?_⟩
              unfold idK
              rw [ez, HK.out.2.2.2.2.2.2.2.2.2.2.2.1]; rfl))
            rw [← HK.out.2.2.2.2.2.1] at hpt
            have H2 := Lib.hid (And.intro hs2 (And.intro h20 (And.intro h2i hbw2)))
            clear hs2 h20 h2i hbw2 hnew hlen
            refine Ht.step (i := 13) ⟨some 51, _, _, _, _, _⟩ rfl (by kernel_rfl) (by rfl) (fun K hK => ?_)
            go_simp
            refine hK _ _ (fun hn => q2) (fun hnx => ?_)
            clear hK K hnx
            try simp only [Act.put, List.setIfInBounds_toArray, List.set_cons_zero, List.set_cons_succ]
            refine Ht.step (i := 14) ⟨some 52, _, _, _, _, _⟩ rfl (by kernel_rfl) (by rfl) (fun K hK => ?_)
            go_simp
            refine hK _ _ (fun hn => q2) (fun hnx => ?_)
            clear hK K hnx
            try simp only [Act.put, List.setIfInBounds_toArray, List.set_cons_zero, List.set_cons_succ]
            refine Ht.step (i := 15) ⟨some 53, _, _, _, _, _⟩ rfl (by kernel_rfl) (by rfl) (fun K hK => ?_)
            go_simp
            refine hK _ _ (fun hn => q2) (fun hnx => ?_)
            clear hK K hnx
            try simp only [Act.put, List.setIfInBounds_toArray, List.set_cons_zero, List.set_cons_succ]
            refine Ht.takeD 8 (i := 16) ⟨some 54, _, _, _, _, _⟩ (.pointer (some ⟨sb, 0, none⟩)) rfl (by kernel_rfl) (by kernel_rfl) (by decide) (by kernel_rfl) (by kernel_rfl) (by kernel_rfl) q2 (Or.inl ⟨by rfl, by (intro X hX; go_simp)⟩) ?_
            simp only [Act.put, List.setIfInBounds_toArray, List.set_cons_zero, List.set_cons_succ]
            refine Ht.takeD 8 (i := 17) ⟨some 55, _, _, _, _, _⟩ (.agg C.toList.toArray) rfl (by kernel_rfl) (by kernel_rfl) (by decide) (by kernel_rfl) (by kernel_rfl) (by kernel_rfl) q2 (yieldsIf_load_mid (by rfl) 42 _ rfl wr.heap.size 0 rfl C.toList _ hrx Tryz.underlying42 rfl hinf) ?_
            simp only [Act.put, List.setIfInBounds_toArray, List.set_cons_zero, List.set_cons_succ, Array.toArray_toList]
            refine Ht.step (i := 18) ⟨some 56, _, _, _, _, _⟩ rfl (by kernel_rfl) (by rfl) (fun K hK => ?_)
            refine Ht.enter 40 #[.pointer (some ⟨sb, 0, none⟩), .agg C] (by have hen := fun args w => enters_of (P := Tryz.prog) Tryz.func40 (by kernel_rfl) rfl args w; go_simp) (hpt) ?_
            rintro e v3 ⟨er, S3, jb3, y, rfl, hf3, hsb3, h3⟩
            have hf3' : Fr (fun k => ∃ i, S' i k) Y v3 := q2.1.trans hf3 fun x ⟨i, e⟩ => (H2.out.2.2.1 i x e).imp_left fun e => ⟨i, e⟩
            have q3 : Fr (fun k => ∃ i, S' i k) Y v3 ∧ v3.heap[sb]? = Y.heap[sb]? := ⟨hf3', hsb3.trans q2.2⟩
            have hbw3 : Below w.heap.size w v3 := HK.out.2.2.1.trans (hf3'.below HK.out.2.2.1.size fun x ⟨i, e⟩ => HK.out.2.1 i x e)
            have H3 := Lib.hid (And.intro h3 hbw3)
            clear hf3 hf3' hsb3 h3 hbw3
            refine ⟨_, rfl, hK _ _ (fun hn => q3) (fun hnx => ?_)⟩
            clear hK K hnx
            try simp only [Act.put, List.setIfInBounds_toArray, List.set_cons_zero, List.set_cons_succ]
            clear hpt
            by_cases he : er = 0
            · subst he
              refine Ht.step (i := 19) ⟨some 57, _, _, _, _, _⟩ rfl (by kernel_rfl) (by rfl) (fun K hK => ?_)
              go_simp
              refine hK _ _ (fun hn => q3) (fun hnx => ?_)
              clear hK K hnx
              try simp only [Act.put, List.setIfInBounds_toArray, List.set_cons_zero, List.set_cons_succ]
              refine Ht.step (i := 20) ⟨some 58, _, _, _, _, _⟩ rfl (by kernel_rfl) (by rfl) (fun K hK => ?_)
              go_simp
              refine hK _ _ (fun hn => absurd rfl hn) (fun hnx => ?_)
              clear hK K hnx
              try simp only [Act.put, List.setIfInBounds_toArray, List.set_cons_zero, List.set_cons_succ]
              refine done (by kernel_rfl) ?_
              clear q1 q2 q3 hS0 hrx
              go_wp2_with fail
              go_roundw
              case rel =>
                obtain ⟨h3, hbw3⟩ := H3.out
                obtain ⟨hly, hs3, hi3⟩ := h3 rfl
                refine ⟨k + 1, S3, jb3, js ++ [y], rfl, hlt, ?_, fun i z hz => ?_, hbw3, ?_, fun z hz => ?_⟩
                · rw [List.map_append, List.map_cons, List.map_nil, idK_of hly, ← HK.out.2.2.2.2.2.2.2.2.2.2.2.1, show 3 * (k + 1) = 3 * k + 1 + 2 by omega]
                  exact hs3
                · rcases hi3 i z hz with hz | hz
                  · rcases H2.out.2.2.1 i z hz with hz | hz
                    · exact HK.out.2.1 i z hz
                    · exact Nat.le_trans HK.out.2.2.1.size hz
                  · exact Nat.le_trans H2.out.2.2.2.size hz
                · rw [take_snoc HK.out.2.2.2.2.1]
                  exact HK.out.2.2.2.1.snoc hly
                · rw [take_snoc HK.out.2.2.2.2.1] at hz
                  rcases List.mem_append.1 hz with hz | hz
                  · exact HK.out.2.2.2.2.2.2.2.2.2.2.2.2.2 z hz
                  · rw [List.mem_singleton.1 hz]; exact HBC.out (by trivial)
              case measure => simp only [RowKit.intOf]; omega
            · refine Ht.step (i := 19) ⟨some 57, _, _, _, _, _⟩ rfl (by kernel_rfl) (by rfl) (fun K hK => ?_)
              have hne : (er != 0) = true := by simpa using he
              go_simp
              refine hK _ _ (fun hn => q3) (fun hnx => ?_)
              clear hK K hnx
              try simp only [Act.put, List.setIfInBounds_toArray, List.set_cons_zero, List.set_cons_succ]
              refine Ht.step (i := 20) ⟨some 58, _, _, _, _, _⟩ rfl (by kernel_rfl) (by rfl) (fun K hK => ?_)
              try go_simp
              refine hK _ _ (fun hn => absurd rfl hn) (fun hnx => ?_)
              clear hK K hnx
              try simp only [Act.put, List.setIfInBounds_toArray, List.set_cons_zero, List.set_cons_succ]
              refine done (by kernel_rfl) ?_
              clear q1 q2 q3 hS0 hrx
              go_wp2_with fail
              refine bodyPost_ret (results_tmp2 rfl _ _ _) rfl ?_
              exact .inl ⟨2, by decide, rfl, H3.out.2⟩
      · have hltx : ¬ ((k : Nat) : Int) < ((n : Nat) : Int) := by omega
        obtain rfl : k = n := by omega
        have HW := Lib.hid (And.intro hs (And.intro hS' (And.intro hbw (And.intro hal hce))))
        obtain ⟨wo, rfl⟩ : ∃ wo : World, wo = wr := ⟨_, rfl⟩
        clear hs hS' hbw hal hce hlt
        go_wp2_with fail
        go_loopw [62] (fun s62 wr => ∃ (i : Nat) (S2 : Nat → Nat → Prop), s62 = .int .i64 ((i : Nat) : Int) ∧ i ≤ k ∧ Sd S2 wr sb mb gb rb wb lb jb now each order (js.map idK) js (3 * k) ∧ (∀ i x, S2 i x → w.heap.size ≤ x) ∧ Below w.heap.size w wr) (fun s62 _ => k - (RowKit.intOf s62).toNat)
        case atStart => exact ⟨0, S', rfl, Nat.zero_le _, HW.out.1, HW.out.2.1, HW.out.2.2.1⟩
        case round =>
          obtain ⟨i, S2, rfl, hi, hs, hS2, hbw⟩ := hrel
          by_cases hlt : i < k
          · have hkl : i < xs.length := by rw [H.out.1.len]; exact hlt
            rcases H.out.1.at' with h0 | ⟨b, rfl, hcell⟩
            · omega
            obtain ⟨x, hx'⟩ : ∃ x, x = xs[i] := ⟨_, rfl⟩
            have hxm : x ∈ xs := by rw [hx']; exact List.getElem_mem _
            obtain ⟨C, hC⟩ : ∃ C, C = x.cs.toArray := ⟨_, rfl⟩
            have hCl : C.toList = x.cs := by rw [hC]
            have hbl : b < w.heap.size := range_lt (hcell i hkl) (by rw [Jb.len]; omega)
            have hrg : wr.rangeAt b (i * 21) C.toList := by
              rw [hCl, hx']
              exact range_old (hcell i hkl) hbw hbl
            obtain ⟨Y, hY⟩ : ∃ Y, Y = wr.alloc (.cells C 42) := ⟨_, rfl⟩
            have hbY : Below wr.heap.size wr Y := by rw [hY]; exact (Below.refl _ _).alloc (Nat.le_refl _) _
            have hYx : Y.heap[wr.heap.size]? = some (.cells C 42 (0, 0)) := by rw [hY]; exact heap_alloc_new wr _
            have hrY : (wr.alloc (.cells C 42)).rangeAt wr.heap.size 0 C.toList := by rw [← hY]; exact Cm.range_of hYx
            have hsc := sc_job wr C (by rw [hC]; rfl) (by rw [hCl]; exact x.one)
            rw [← hY] at hsc
            unfold jobZ at hsc
            have hinf : (Tryz.prog.info? 42).map (·.size) = some C.toList.length := by rw [hCl]; exact info_job
            have hCs : C.size = 21 := by rw [hC]; rfl
            have hsY := hs.old hbY
            have hbwY : Below w.heap.size w Y := hbw.trans (hbY.mono hbw.size)
            obtain ⟨hds, hns, hts, h255⟩ := H.out.2.1 x hxm
            have hlk := link_any hsY (by omega) ((H.out.1.ds x hxm).old hbwY) (by omega) (fun d hd => by have := hds d hd; unfold maxLen; omega) (fun b o e0 e i0 _ e2 => by
                have h1 := hS2 i0 b e2
                rcases (H.out.1.ds x hxm).2.2 with h0 | ⟨b', o', k1, k2⟩
                · exact e0 h0
                · rw [e] at k1
                  obtain ⟨rfl, rfl⟩ : b = b' ∧ o = o' := by simpa using k1
                  have h3 := World.block_lt_of_cell? w _ (k2 0 (by rw [(H.out.1.ds x hxm).1]; omega))
                  exact absurd h1 (Nat.not_le.2 h3)) (by
                have hl := HW.out.2.2.2.1
                have hi2 : i < js.length := by rw [← hl.1, List.length_take]; omega
                have := hl.2 i x js[i] (by rw [List.getElem?_take_of_lt hlt, List.getElem?_eq_getElem hkl, hx']) (List.getElem?_eq_getElem hi2)
                refine List.mem_map.2 ⟨js[i], List.getElem_mem _, ?_⟩
                rw [idK_of this]; rfl)
            rw [← hC] at hlk
            have HR := Lib.hid (And.intro hsY (And.intro hS2 hbwY))
            have hltx : ((i : Nat) : Int) < ((k : Nat) : Int) := by omega
            have hkb : i ≤ 1000000 := by omega
            clear hs hS2 hbw hx' hxm hC hCl hbY hYx hsY hbwY hds hns hts h255 hcell hbl hkl
            go_wp2_with (first | (refine wpList_load_mid rfl 42 _ rfl b (i * 21) rfl C.toList _ hrg Tryz.underlying42 rfl hinf ?_) | (refine wpList_load_mid rfl 42 _ rfl wr.heap.size 0 rfl C.toList _ hrY Tryz.underlying42 rfl hinf ?_))
            rw [← hY]
            have HY := Lib.hid hY
            clear hY hsc hrg hrY
            refine hlk.mono ?_
            rintro e w2 ⟨er, S3, rfl, hf3, h3⟩
            have HB2 := Lib.hid (And.intro hf3 h3)
            clear hlk hf3 h3
            by_cases he : er = 0
            · subst he
              go_wp2_with fail
              go_roundw
              case rel =>
                obtain ⟨hs3, h30, hi3⟩ := HB2.out.2 (by trivial)
                refine ⟨i + 1, S3, rfl, hlt, hs3, fun i z hz => ?_, HR.out.2.2.trans (HB2.out.1.below HR.out.2.2.size fun x ⟨i, _, e⟩ => HR.out.2.1 i x e)⟩
                rcases hi3 i z hz with hz | hz
                · exact HR.out.2.1 i z hz
                · exact Nat.le_trans HR.out.2.2.size hz
              case measure => simp only [RowKit.intOf]; omega
            · go_wp2_with fail
              refine bodyPost_ret (results_tmp2 rfl _ _ _) rfl ?_
              exact .inl ⟨2, by decide, rfl, HR.out.2.2.trans (HB2.out.1.below HR.out.2.2.size fun x ⟨i, _, e⟩ => HR.out.2.1 i x e)⟩
          · have hltx : ¬ ((i : Nat) : Int) < ((k : Nat) : Int) := by omega
            have HR := Lib.hid (And.intro hs (And.intro hS2 hbw))
            clear hs hS2 hbw
            go_wp2_with fail
            refine bodyPost_ret (results_tmp2 rfl _ _ _) rfl ?_
            refine .inr ⟨sb, mb, gb, rb, wb, lb, jb, S2, js, rfl, HR.out.1.more (by omega), ?_, ?_, HR.out.2.2, H1.out.2.2.2.1, H1.out.2.2.2.2.1, H1.out.2.2.2.2.2⟩
            · have hl := HW.out.2.2.2.1
              rwa [List.take_of_length_le (by rw [H.out.1.len]; exact Nat.le_refl _)] at hl
            · have hl := HW.out.2.2.2.2
              rwa [List.take_of_length_le (by rw [H.out.1.len]; exact Nat.le_refl _)] at hl
end Go.Proofs.YtcodjknhnhdkfaaGreatDoor.Im
