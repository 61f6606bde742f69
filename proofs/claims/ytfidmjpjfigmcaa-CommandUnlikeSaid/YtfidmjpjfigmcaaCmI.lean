
/- commands: the same -/
import Derived.Test.YtfidmjpjfigmcaaCmH
import Derived.Test.YtfidmjpjfigmcaaCmS
import Derived.Test.YtfidmjpjfigmcaaSp4
import Derived.Deep.DeepCutAuto
import Derived.Deep.CutBlock
import Derived.WalkSmall
namespace Go.Proofs.Ytfidmjpjfigmcaa.Cm
open Go.RowKit Go.Lib Go.Shelf Wn Rf By Ht
open Sp (T join)
set_option linter.unusedVariables false
set_option maxRecDepth 20000
open Classical in
/-- are two commands the same? -/
noncomputable def smC (a b : Cmd) : Bool := decide (a.eqv b)
open Classical in
theorem smC_no {a b : Cmd} (h : ¬ a.eqv b) : smC a b = false := decide_eq_false h
open Classical in
theorem smC_yes {a b : Cmd} (h : a.eqv b) : smC a b = true := decide_eq_true h
open Classical in
theorem smC_iff {a b : Cmd} : smC a b = true ↔ a.eqv b := decide_eq_true_iff
theorem str_ne {x y : ByteArray} (h : ¬ x = y) : (x.toList == y.toList) = false := by
  rw [beq_eq_false_iff_ne]
  intro q
  apply h
  rw [ByteArray.toList_eq, ByteArray.toList_eq] at q
  exact ByteArray.ext (Array.toList_inj.1 q)
set_option maxHeartbeats 8000000 in
theorem same_any (a b : Cmd) {w : World} (da : Sp.Dp w a.sp.a a.sp.n a.sp.ds) (db : Sp.Dp w b.sp.a b.sp.n b.sp.ds) (wa : a.sp.wf) (wb : b.sp.wf) (ma : a.sp.med) (mb : b.sp.med) :
    Calls Try.prog 8 #[.agg a.cells, .agg b.cells] w fun e w' => e = .returned (.bool (smC a b)) ∧ Below w.heap.size w w' := by
  have hmix : Try.prog.follows .mixedOrders = true := by kernel_rfl
  obtain ⟨V, hV⟩ : ∃ V, V = (w.alloc (.cells a.cells 29)).alloc (.cells b.cells 29) := ⟨_, rfl⟩
  have hb : Below w.heap.size w V := by rw [hV]; exact ((Below.refl _ _).alloc (Nat.le_refl _) _).alloc (by simp) _
  have hs : V.heap.size = w.heap.size + 2 := by rw [hV]; simp
  have hx0 : V.heap[w.heap.size]? = some (.cells a.cells 29 (0, 0)) := by rw [hV]; exact ((Below.refl (w.heap.size + 1) _).alloc (by simp) _ |>.block _ (by omega)).trans (heap_alloc_new w _)
  have hx1 : V.heap[w.heap.size + 1]? = some (.cells b.cells 29 (0, 0)) := by
    rw [hV]
    have := heap_alloc_new (w.alloc (.cells a.cells 29)) (.cells b.cells 29)
    rwa [World.size_alloc] at this
  obtain ⟨r, hr⟩ : ∃ r, r = smC a b := ⟨_, rfl⟩
  rw [← hr]
  have rA : V.rangeAt w.heap.size 5 a.sp.cells.toList := range_mid hx0 (fun j v hj => by
    have hj' : j < 11 := (List.getElem?_eq_some_iff.1 hj).1
    rw [← hj]
    match j, hj' with
    | 0, _ | 1, _ | 2, _ | 3, _ | 4, _ | 5, _ | 6, _ | 7, _ | 8, _ | 9, _ | 10, _ => rfl)
  have rB : V.rangeAt (w.heap.size + 1) 5 b.sp.cells.toList := range_mid hx1 (fun j v hj => by
    have hj' : j < 11 := (List.getElem?_eq_some_iff.1 hj).1
    rw [← hj]
    match j, hj' with
    | 0, _ | 1, _ | 2, _ | 3, _ | 4, _ | 5, _ | 6, _ | 7, _ | 8, _ | 9, _ | 10, _ => rfl)
  have HA := Lib.hid (fun (W : World) (h : Below V.heap.size V W) => Sp.Bytes_med a.sp (w := W) (Sp.Dp.old (da.old hb) h) wa ma)
  have HB := Lib.hid (fun (W : World) (h : Below V.heap.size V W) => Sp.Bytes_med b.sp (w := W) (Sp.Dp.old (db.old hb) h) wb mb)
  have HR := Lib.hid (And.intro rA rB)
  have HQ := Lib.hid hb
  clear da db wa wb ma mb rA rB hb
  obtain ⟨akd, anm, awk, atk, avl, x⟩ := a
  obtain ⟨bkd, bnm, bwk, btk, bvl, y⟩ := b
  unfold Cmd.cells at hx0 hx1 hV ⊢
  simp only at hx0 hx1 hV HA HB HR ⊢
  have cl : ∀ (k i : Nat) (v : Value), k < V.heap.size → V.cell? ⟨k, i, none⟩ = some v → ∀ X, Below V.heap.size V X → X.cell? ⟨k, i, none⟩ = some v := fun k i v hk h X hX => (hX.cell (p := ⟨k, i, none⟩) hk).trans h
  have a0 := (cell_at hx0 (i := 0) rfl).1
  have b0 := (cell_at hx1 (i := 0) rfl).1
  have a1 := (cell_at hx0 (i := 1) rfl).1
  have b1 := (cell_at hx1 (i := 1) rfl).1
  have a2 := (cell_at hx0 (i := 2) rfl).1
  have b2 := (cell_at hx1 (i := 2) rfl).1
  have a3 := (cell_at hx0 (i := 3) rfl).1
  have b3 := (cell_at hx1 (i := 3) rfl).1
  have a4 := (cell_at hx0 (i := 4) rfl).1
  have b4 := (cell_at hx1 (i := 4) rfl).1
  have a5 := (cell_at hx0 (i := 5) rfl).1
  have b5 := (cell_at hx1 (i := 5) rfl).1
  have a6 := (cell_at hx0 (i := 6) rfl).1
  have b6 := (cell_at hx1 (i := 6) rfl).1
  have a7 := (cell_at hx0 (i := 7) rfl).1
  have b7 := (cell_at hx1 (i := 7) rfl).1
  have a8 := (cell_at hx0 (i := 8) rfl).1
  have b8 := (cell_at hx1 (i := 8) rfl).1
  have a9 := (cell_at hx0 (i := 9) rfl).1
  have b9 := (cell_at hx1 (i := 9) rfl).1
  have a10 := (cell_at hx0 (i := 10) rfl).1
  have b10 := (cell_at hx1 (i := 10) rfl).1
  have a11 := (cell_at hx0 (i := 11) rfl).1
  have b11 := (cell_at hx1 (i := 11) rfl).1
  have a12 := (cell_at hx0 (i := 12) rfl).1
  have b12 := (cell_at hx1 (i := 12) rfl).1
  have a13 := (cell_at hx0 (i := 13) rfl).1
  have b13 := (cell_at hx1 (i := 13) rfl).1
  have a14 := (cell_at hx0 (i := 14) rfl).1
  have b14 := (cell_at hx1 (i := 14) rfl).1
  have a15 := (cell_at hx0 (i := 15) rfl).1
  have b15 := (cell_at hx1 (i := 15) rfl).1
  have s0 : w.heap.size < V.heap.size := by omega
  have s1 : w.heap.size + 1 < V.heap.size := by omega
  clear hx0 hx1 hs
  go_enter Try.func8, Try.ntmps8
  go_upto_region 1 with fail
  rw [← hV]
  have HV := Lib.hid hV
  clear hV
  by_cases h : akd = bkd
  case neg =>
    have hf : r = false := by rw [hr]; exact smC_no (fun e => h e.1)
    have ht : (akd == bkd) = false := beq_eq_false_iff_ne.2 h
    have HF := Lib.hid hf
    clear hf hr cl h
    go_quiet (fail)
    go_wp2_with fail
    go_ret
    exact ⟨by rw [HF.out]; rfl, below_drewN HQ.out nq⟩
  subst h
  by_cases h : anm = bnm
  case neg =>
    have hf : r = false := by rw [hr]; exact smC_no (fun e => h e.2.1)
    have ht : (anm.toList == bnm.toList) = false := str_ne h
    have HF := Lib.hid hf
    clear hf hr cl h
    go_quiet (fail)
    go_wp2_with fail
    go_ret
    exact ⟨by rw [HF.out]; rfl, below_drewN HQ.out nq⟩
  subst h
  by_cases h : awk = bwk
  case neg =>
    have hf : r = false := by rw [hr]; exact smC_no (fun e => h e.2.2.1)
    have ht : (awk.toList == bwk.toList) = false := str_ne h
    have HF := Lib.hid hf
    clear hf hr cl h
    go_quiet (fail)
    go_wp2_with fail
    go_ret
    exact ⟨by rw [HF.out]; rfl, below_drewN HQ.out nq⟩
  subst h
  by_cases h : atk = btk
  case neg =>
    have hf : r = false := by rw [hr]; exact smC_no (fun e => h e.2.2.2.1)
    have ht : ((atk : Int) == (btk : Int)) = false := beq_eq_false_iff_ne.2 (by omega)
    have HF := Lib.hid hf
    clear hf hr cl h
    go_quiet (fail)
    go_wp2_with fail
    go_ret
    exact ⟨by rw [HF.out]; rfl, below_drewN HQ.out nq⟩
  subst h
  by_cases h : avl = bvl
  case neg =>
    have hf : r = false := by rw [hr]; exact smC_no (fun e => h e.2.2.2.2.1)
    have ht : (avl == bvl) = false := beq_eq_false_iff_ne.2 h
    have HF := Lib.hid hf
    clear hf hr cl h
    go_quiet (fail)
    go_wp2_with fail
    go_ret
    exact ⟨by rw [HF.out]; rfl, below_drewN HQ.out nq⟩
  subst h
  obtain ⟨TA, hTA⟩ : ∃ S : ByteArray, S = ⟨(Sp.specB x).toArray⟩ := ⟨_, rfl⟩
  obtain ⟨TB, hTB⟩ : ∃ S : ByteArray, S = ⟨(Sp.specB y).toArray⟩ := ⟨_, rfl⟩
  have hrr : (TA.toList == TB.toList) = r := by
    have e1 : ∀ l : List UInt8, (⟨l.toArray⟩ : ByteArray).toList = l := fun l => by rw [ByteArray.toList_eq]
    rw [hr, hTA, hTB, e1, e1]
    by_cases q : Sp.specB x = Sp.specB y
    · rw [smC_yes (a := ⟨akd, anm, awk, atk, avl, x⟩) (b := ⟨akd, anm, awk, atk, avl, y⟩) ⟨rfl, rfl, rfl, rfl, rfl, q⟩, q]; simp
    · rw [smC_no (fun e => q e.2.2.2.2.2)]; simpa using q
  simp only [T, ← hTA, ← hTB] at HA HB
  clear hTA hTB hr
  clear a5 b5 a6 b6 a7 b7 a8 b8 a9 b9 a10 b10 a11 b11 a12 b12 a13 b13 a14 b14 a15 b15
  refine begin' 42 (fun ZZ => Below V.heap.size V ZZ) hmix ((Below.refl _ V).drew) (fun hS0 => ?_)
  refine Ht.takeD 8 (i := 0) ⟨some 5, _, _, _, _, _⟩ (.pointer (some ⟨w.heap.size, 0, none⟩)) rfl (by kernel_rfl) (by kernel_rfl) (by decide) (by kernel_rfl) (by kernel_rfl) (by kernel_rfl) hS0 (Or.inl ⟨by rfl, by (intro X hX; go_simp)⟩) ?_
  simp only [Act.put, List.setIfInBounds_toArray, List.set_cons_zero, List.set_cons_succ]
  refine Ht.takeD 8 (i := 1) ⟨some 6, _, _, _, _, _⟩ (.int .i64 akd) rfl (by kernel_rfl) (by kernel_rfl) (by decide) (by kernel_rfl) (by kernel_rfl) (by kernel_rfl) hS0 (Or.inl ⟨by rfl, by (intro X hX; have := cl _ 0 _ s0 a0 X hX; go_simp)⟩) ?_
  simp only [Act.put, List.setIfInBounds_toArray, List.set_cons_zero, List.set_cons_succ]
  refine Ht.takeD 8 (i := 2) ⟨some 7, _, _, _, _, _⟩ (.pointer (some ⟨w.heap.size + 1, 0, none⟩)) rfl (by kernel_rfl) (by kernel_rfl) (by decide) (by kernel_rfl) (by kernel_rfl) (by kernel_rfl) hS0 (Or.inl ⟨by rfl, by (intro X hX; go_simp)⟩) ?_
  simp only [Act.put, List.setIfInBounds_toArray, List.set_cons_zero, List.set_cons_succ]
  refine Ht.takeD 8 (i := 3) ⟨some 8, _, _, _, _, _⟩ (.int .i64 akd) rfl (by kernel_rfl) (by kernel_rfl) (by decide) (by kernel_rfl) (by kernel_rfl) (by kernel_rfl) hS0 (Or.inl ⟨by rfl, by (intro X hX; have := cl _ 0 _ s1 b0 X hX; go_simp)⟩) ?_
  simp only [Act.put, List.setIfInBounds_toArray, List.set_cons_zero, List.set_cons_succ]
  refine Ht.takeD 8 (i := 4) ⟨some 9, _, _, _, _, _⟩ (.bool true) rfl (by kernel_rfl) (by kernel_rfl) (by decide) (by kernel_rfl) (by kernel_rfl) (by kernel_rfl) hS0 (Or.inl ⟨by rfl, by (intro X hX; go_simp)⟩) ?_
  simp only [Act.put, List.setIfInBounds_toArray, List.set_cons_zero, List.set_cons_succ]
  refine Ht.takeD 8 (i := 5) ⟨some 10, _, _, _, _, _⟩ (.bool true) rfl (by kernel_rfl) (by kernel_rfl) (by decide) (by kernel_rfl) (by kernel_rfl) (by kernel_rfl) hS0 (Or.inl ⟨by rfl, by (intro X hX; go_simp)⟩) ?_
  simp only [Act.put, List.setIfInBounds_toArray, List.set_cons_zero, List.set_cons_succ]
  refine Ht.takeD 8 (i := 6) ⟨some 11, _, _, _, _, _⟩ (.pointer (some ⟨w.heap.size, 1, none⟩)) rfl (by kernel_rfl) (by kernel_rfl) (by decide) (by kernel_rfl) (by kernel_rfl) (by kernel_rfl) hS0 (Or.inl ⟨by rfl, by (intro X hX; go_simp)⟩) ?_
  simp only [Act.put, List.setIfInBounds_toArray, List.set_cons_zero, List.set_cons_succ]
  refine Ht.takeD 8 (i := 7) ⟨some 12, _, _, _, _, _⟩ (.string anm) rfl (by kernel_rfl) (by kernel_rfl) (by decide) (by kernel_rfl) (by kernel_rfl) (by kernel_rfl) hS0 (Or.inl ⟨by rfl, by (intro X hX; have := cl _ 1 _ s0 a1 X hX; go_simp)⟩) ?_
  simp only [Act.put, List.setIfInBounds_toArray, List.set_cons_zero, List.set_cons_succ]
  refine Ht.takeD 8 (i := 8) ⟨some 13, _, _, _, _, _⟩ (.pointer (some ⟨w.heap.size + 1, 1, none⟩)) rfl (by kernel_rfl) (by kernel_rfl) (by decide) (by kernel_rfl) (by kernel_rfl) (by kernel_rfl) hS0 (Or.inl ⟨by rfl, by (intro X hX; go_simp)⟩) ?_
  simp only [Act.put, List.setIfInBounds_toArray, List.set_cons_zero, List.set_cons_succ]
  refine Ht.takeD 8 (i := 9) ⟨some 14, _, _, _, _, _⟩ (.string anm) rfl (by kernel_rfl) (by kernel_rfl) (by decide) (by kernel_rfl) (by kernel_rfl) (by kernel_rfl) hS0 (Or.inl ⟨by rfl, by (intro X hX; have := cl _ 1 _ s1 b1 X hX; go_simp)⟩) ?_
  simp only [Act.put, List.setIfInBounds_toArray, List.set_cons_zero, List.set_cons_succ]
  refine Ht.takeD 8 (i := 10) ⟨some 15, _, _, _, _, _⟩ (.bool true) rfl (by kernel_rfl) (by kernel_rfl) (by decide) (by kernel_rfl) (by kernel_rfl) (by kernel_rfl) hS0 (Or.inl ⟨by rfl, by (intro X hX; go_simp)⟩) ?_
  simp only [Act.put, List.setIfInBounds_toArray, List.set_cons_zero, List.set_cons_succ]
  refine Ht.takeD 8 (i := 11) ⟨some 16, _, _, _, _, _⟩ (.bool true) rfl (by kernel_rfl) (by kernel_rfl) (by decide) (by kernel_rfl) (by kernel_rfl) (by kernel_rfl) hS0 (Or.inl ⟨by rfl, by (intro X hX; go_simp)⟩) ?_
  simp only [Act.put, List.setIfInBounds_toArray, List.set_cons_zero, List.set_cons_succ]
  refine Ht.takeD 8 (i := 12) ⟨some 17, _, _, _, _, _⟩ (.bool true) rfl (by kernel_rfl) (by kernel_rfl) (by decide) (by kernel_rfl) (by kernel_rfl) (by kernel_rfl) hS0 (Or.inl ⟨by rfl, by (intro X hX; go_simp)⟩) ?_
  simp only [Act.put, List.setIfInBounds_toArray, List.set_cons_zero, List.set_cons_succ]
  refine Ht.takeD 8 (i := 13) ⟨some 18, _, _, _, _, _⟩ (.pointer (some ⟨w.heap.size, 2, none⟩)) rfl (by kernel_rfl) (by kernel_rfl) (by decide) (by kernel_rfl) (by kernel_rfl) (by kernel_rfl) hS0 (Or.inl ⟨by rfl, by (intro X hX; go_simp)⟩) ?_
  simp only [Act.put, List.setIfInBounds_toArray, List.set_cons_zero, List.set_cons_succ]
  refine Ht.takeD 8 (i := 14) ⟨some 19, _, _, _, _, _⟩ (.string awk) rfl (by kernel_rfl) (by kernel_rfl) (by decide) (by kernel_rfl) (by kernel_rfl) (by kernel_rfl) hS0 (Or.inl ⟨by rfl, by (intro X hX; have := cl _ 2 _ s0 a2 X hX; go_simp)⟩) ?_
  simp only [Act.put, List.setIfInBounds_toArray, List.set_cons_zero, List.set_cons_succ]
  refine Ht.takeD 8 (i := 15) ⟨some 20, _, _, _, _, _⟩ (.pointer (some ⟨w.heap.size + 1, 2, none⟩)) rfl (by kernel_rfl) (by kernel_rfl) (by decide) (by kernel_rfl) (by kernel_rfl) (by kernel_rfl) hS0 (Or.inl ⟨by rfl, by (intro X hX; go_simp)⟩) ?_
  simp only [Act.put, List.setIfInBounds_toArray, List.set_cons_zero, List.set_cons_succ]
  refine Ht.takeD 8 (i := 16) ⟨some 21, _, _, _, _, _⟩ (.string awk) rfl (by kernel_rfl) (by kernel_rfl) (by decide) (by kernel_rfl) (by kernel_rfl) (by kernel_rfl) hS0 (Or.inl ⟨by rfl, by (intro X hX; have := cl _ 2 _ s1 b2 X hX; go_simp)⟩) ?_
  simp only [Act.put, List.setIfInBounds_toArray, List.set_cons_zero, List.set_cons_succ]
  refine Ht.takeD 8 (i := 17) ⟨some 22, _, _, _, _, _⟩ (.bool true) rfl (by kernel_rfl) (by kernel_rfl) (by decide) (by kernel_rfl) (by kernel_rfl) (by kernel_rfl) hS0 (Or.inl ⟨by rfl, by (intro X hX; go_simp)⟩) ?_
  simp only [Act.put, List.setIfInBounds_toArray, List.set_cons_zero, List.set_cons_succ]
  refine Ht.takeD 8 (i := 18) ⟨some 23, _, _, _, _, _⟩ (.bool true) rfl (by kernel_rfl) (by kernel_rfl) (by decide) (by kernel_rfl) (by kernel_rfl) (by kernel_rfl) hS0 (Or.inl ⟨by rfl, by (intro X hX; go_simp)⟩) ?_
  simp only [Act.put, List.setIfInBounds_toArray, List.set_cons_zero, List.set_cons_succ]
  refine Ht.takeD 8 (i := 19) ⟨some 24, _, _, _, _, _⟩ (.bool true) rfl (by kernel_rfl) (by kernel_rfl) (by decide) (by kernel_rfl) (by kernel_rfl) (by kernel_rfl) hS0 (Or.inl ⟨by rfl, by (intro X hX; go_simp)⟩) ?_
  simp only [Act.put, List.setIfInBounds_toArray, List.set_cons_zero, List.set_cons_succ]
  refine Ht.takeD 8 (i := 20) ⟨some 25, _, _, _, _, _⟩ (.pointer (some ⟨w.heap.size, 3, none⟩)) rfl (by kernel_rfl) (by kernel_rfl) (by decide) (by kernel_rfl) (by kernel_rfl) (by kernel_rfl) hS0 (Or.inl ⟨by rfl, by (intro X hX; go_simp)⟩) ?_
  simp only [Act.put, List.setIfInBounds_toArray, List.set_cons_zero, List.set_cons_succ]
  refine Ht.takeD 8 (i := 21) ⟨some 26, _, _, _, _, _⟩ (.int .u64 atk) rfl (by kernel_rfl) (by kernel_rfl) (by decide) (by kernel_rfl) (by kernel_rfl) (by kernel_rfl) hS0 (Or.inl ⟨by rfl, by (intro X hX; have := cl _ 3 _ s0 a3 X hX; go_simp)⟩) ?_
  simp only [Act.put, List.setIfInBounds_toArray, List.set_cons_zero, List.set_cons_succ]
  refine Ht.takeD 8 (i := 22) ⟨some 27, _, _, _, _, _⟩ (.pointer (some ⟨w.heap.size + 1, 3, none⟩)) rfl (by kernel_rfl) (by kernel_rfl) (by decide) (by kernel_rfl) (by kernel_rfl) (by kernel_rfl) hS0 (Or.inl ⟨by rfl, by (intro X hX; go_simp)⟩) ?_
  simp only [Act.put, List.setIfInBounds_toArray, List.set_cons_zero, List.set_cons_succ]
  refine Ht.takeD 8 (i := 23) ⟨some 28, _, _, _, _, _⟩ (.int .u64 atk) rfl (by kernel_rfl) (by kernel_rfl) (by decide) (by kernel_rfl) (by kernel_rfl) (by kernel_rfl) hS0 (Or.inl ⟨by rfl, by (intro X hX; have := cl _ 3 _ s1 b3 X hX; go_simp)⟩) ?_
  simp only [Act.put, List.setIfInBounds_toArray, List.set_cons_zero, List.set_cons_succ]
  refine Ht.takeD 8 (i := 24) ⟨some 29, _, _, _, _, _⟩ (.bool true) rfl (by kernel_rfl) (by kernel_rfl) (by decide) (by kernel_rfl) (by kernel_rfl) (by kernel_rfl) hS0 (Or.inl ⟨by rfl, by (intro X hX; go_simp)⟩) ?_
  simp only [Act.put, List.setIfInBounds_toArray, List.set_cons_zero, List.set_cons_succ]
  refine Ht.takeD 8 (i := 25) ⟨some 30, _, _, _, _, _⟩ (.bool true) rfl (by kernel_rfl) (by kernel_rfl) (by decide) (by kernel_rfl) (by kernel_rfl) (by kernel_rfl) hS0 (Or.inl ⟨by rfl, by (intro X hX; go_simp)⟩) ?_
  simp only [Act.put, List.setIfInBounds_toArray, List.set_cons_zero, List.set_cons_succ]
  refine Ht.takeD 8 (i := 26) ⟨some 31, _, _, _, _, _⟩ (.bool true) rfl (by kernel_rfl) (by kernel_rfl) (by decide) (by kernel_rfl) (by kernel_rfl) (by kernel_rfl) hS0 (Or.inl ⟨by rfl, by (intro X hX; go_simp)⟩) ?_
  simp only [Act.put, List.setIfInBounds_toArray, List.set_cons_zero, List.set_cons_succ]
  refine Ht.takeD 8 (i := 27) ⟨some 32, _, _, _, _, _⟩ (.pointer (some ⟨w.heap.size, 4, none⟩)) rfl (by kernel_rfl) (by kernel_rfl) (by decide) (by kernel_rfl) (by kernel_rfl) (by kernel_rfl) hS0 (Or.inl ⟨by rfl, by (intro X hX; go_simp)⟩) ?_
  simp only [Act.put, List.setIfInBounds_toArray, List.set_cons_zero, List.set_cons_succ]
  refine Ht.takeD 8 (i := 28) ⟨some 33, _, _, _, _, _⟩ (.int .i64 avl) rfl (by kernel_rfl) (by kernel_rfl) (by decide) (by kernel_rfl) (by kernel_rfl) (by kernel_rfl) hS0 (Or.inl ⟨by rfl, by (intro X hX; have := cl _ 4 _ s0 a4 X hX; go_simp)⟩) ?_
  simp only [Act.put, List.setIfInBounds_toArray, List.set_cons_zero, List.set_cons_succ]
  refine Ht.takeD 8 (i := 29) ⟨some 34, _, _, _, _, _⟩ (.pointer (some ⟨w.heap.size + 1, 4, none⟩)) rfl (by kernel_rfl) (by kernel_rfl) (by decide) (by kernel_rfl) (by kernel_rfl) (by kernel_rfl) hS0 (Or.inl ⟨by rfl, by (intro X hX; go_simp)⟩) ?_
  simp only [Act.put, List.setIfInBounds_toArray, List.set_cons_zero, List.set_cons_succ]
  refine Ht.takeD 8 (i := 30) ⟨some 35, _, _, _, _, _⟩ (.int .i64 avl) rfl (by kernel_rfl) (by kernel_rfl) (by decide) (by kernel_rfl) (by kernel_rfl) (by kernel_rfl) hS0 (Or.inl ⟨by rfl, by (intro X hX; have := cl _ 4 _ s1 b4 X hX; go_simp)⟩) ?_
  simp only [Act.put, List.setIfInBounds_toArray, List.set_cons_zero, List.set_cons_succ]
  refine Ht.takeD 8 (i := 31) ⟨some 36, _, _, _, _, _⟩ (.bool true) rfl (by kernel_rfl) (by kernel_rfl) (by decide) (by kernel_rfl) (by kernel_rfl) (by kernel_rfl) hS0 (Or.inl ⟨by rfl, by (intro X hX; go_simp)⟩) ?_
  simp only [Act.put, List.setIfInBounds_toArray, List.set_cons_zero, List.set_cons_succ]
  refine Ht.takeD 8 (i := 32) ⟨some 37, _, _, _, _, _⟩ (.bool true) rfl (by kernel_rfl) (by kernel_rfl) (by decide) (by kernel_rfl) (by kernel_rfl) (by kernel_rfl) hS0 (Or.inl ⟨by rfl, by (intro X hX; go_simp)⟩) ?_
  simp only [Act.put, List.setIfInBounds_toArray, List.set_cons_zero, List.set_cons_succ]
  refine Ht.takeD 8 (i := 33) ⟨some 38, _, _, _, _, _⟩ (.bool true) rfl (by kernel_rfl) (by kernel_rfl) (by decide) (by kernel_rfl) (by kernel_rfl) (by kernel_rfl) hS0 (Or.inl ⟨by rfl, by (intro X hX; go_simp)⟩) ?_
  simp only [Act.put, List.setIfInBounds_toArray, List.set_cons_zero, List.set_cons_succ]
  refine Ht.takeD 8 (i := 34) ⟨some 39, _, _, _, _, _⟩ (.pointer (some ⟨w.heap.size, 5, none⟩)) rfl (by kernel_rfl) (by kernel_rfl) (by decide) (by kernel_rfl) (by kernel_rfl) (by kernel_rfl) hS0 (Or.inl ⟨by rfl, by (intro X hX; go_simp)⟩) ?_
  simp only [Act.put, List.setIfInBounds_toArray, List.set_cons_zero, List.set_cons_succ]
  refine Ht.takeD 8 (i := 35) ⟨some 40, _, _, _, _, _⟩ (.agg x.cells) rfl (by kernel_rfl) (by kernel_rfl) (by decide) (by kernel_rfl) (by kernel_rfl) (by kernel_rfl) hS0 (yieldsIf_load_mid (by rfl) 27 _ rfl (w.heap.size) 5 rfl x.cells.toList _ (fun X hX => range_old HR.out.1 hX) Try.underlying27 rfl info_spec2) ?_
  simp only [Act.put, List.setIfInBounds_toArray, List.set_cons_zero, List.set_cons_succ]
  refine Ht.takeD 8 (i := 37) ⟨some 42, _, _, _, _, _⟩ (.pointer (some ⟨w.heap.size + 1, 5, none⟩)) rfl (by kernel_rfl) (by kernel_rfl) (by decide) (by kernel_rfl) (by kernel_rfl) (by kernel_rfl) hS0 (Or.inl ⟨by rfl, by (intro X hX; go_simp)⟩) ?_
  simp only [Act.put, List.setIfInBounds_toArray, List.set_cons_zero, List.set_cons_succ]
  refine Ht.takeD 8 (i := 38) ⟨some 43, _, _, _, _, _⟩ (.agg y.cells) rfl (by kernel_rfl) (by kernel_rfl) (by decide) (by kernel_rfl) (by kernel_rfl) (by kernel_rfl) hS0 (yieldsIf_load_mid (by rfl) 27 _ rfl (w.heap.size + 1) 5 rfl y.cells.toList _ (fun X hX => range_old HR.out.2 hX) Try.underlying27 rfl info_spec2) ?_
  simp only [Act.put, List.setIfInBounds_toArray, List.set_cons_zero, List.set_cons_succ]
  refine Ht.step (i := 36) ⟨some 41, _, _, _, _, _⟩ rfl (by kernel_rfl) (by rfl) (fun K hK => ?_)
  refine Ht.enter 22 #[.agg x.cells] (by have hen := fun args w => enters_of (P := Try.prog) Try.func22 (by kernel_rfl) rfl args w; go_simp) (HA.out _ hS0) ?_
  rintro e v1 ⟨rfl, b1_⟩
  have B1 := Lib.hid b1_
  have q1 : Below V.heap.size V v1 := hS0.trans (B1.out.mono hS0.size)
  clear b1_
  refine ⟨_, rfl, hK _ _ (fun hn => q1) (fun hnx => ?_)⟩
  clear hK K hnx
  try simp only [Act.put, List.setIfInBounds_toArray, List.set_cons_zero, List.set_cons_succ]
  refine Ht.step (i := 39) ⟨some 44, _, _, _, _, _⟩ rfl (by kernel_rfl) (by rfl) (fun K hK => ?_)
  refine Ht.enter 22 #[.agg y.cells] (by have hen := fun args w => enters_of (P := Try.prog) Try.func22 (by kernel_rfl) rfl args w; go_simp) (HB.out _ q1) ?_
  rintro e v2 ⟨rfl, b2_⟩
  have B2 := Lib.hid b2_
  have q2 : Below V.heap.size V v2 := q1.trans (B2.out.mono q1.size)
  clear b2_
  refine ⟨_, rfl, hK _ _ (fun hn => q2) (fun hnx => ?_)⟩
  clear hK K hnx
  try simp only [Act.put, List.setIfInBounds_toArray, List.set_cons_zero, List.set_cons_succ]
  refine Ht.takeD 8 (i := 40) ⟨some 45, _, _, _, _, _⟩ (.bool r) rfl (by kernel_rfl) (by kernel_rfl) (by decide) (by kernel_rfl) (by kernel_rfl) (by kernel_rfl) q2 (Or.inl ⟨by rfl, by (intro X hX; have := hrr; go_simp)⟩) ?_
  simp only [Act.put, List.setIfInBounds_toArray, List.set_cons_zero, List.set_cons_succ]
  refine Ht.takeD 8 (i := 41) ⟨some 46, _, _, _, _, _⟩ (.bool r) rfl (by kernel_rfl) (by kernel_rfl) (by decide) (by kernel_rfl) (by kernel_rfl) (by kernel_rfl) q2 (Or.inl ⟨by rfl, by (intro X hX; go_simp)⟩) ?_
  simp only [Act.put, List.setIfInBounds_toArray, List.set_cons_zero, List.set_cons_succ]
  refine Ht.step (i := 42) ⟨some 4, _, _, _, _, _⟩ rfl (by kernel_rfl) (by rfl) (fun K hK => ?_)
  go_simp
  refine hK _ _ (fun hn => absurd rfl hn) (fun hnx => ?_)
  clear hK K hnx
  try simp only [Act.put, List.setIfInBounds_toArray, List.set_cons_zero, List.set_cons_succ]
  refine done (by kernel_rfl) ?_
  have Q := Lib.hid (HQ.out.trans (q2.mono HQ.out.size))
  clear hS0 q1 q2 cl
  go_wp2_with fail
  go_ret
  exact ⟨rfl, Q.out⟩
end Go.Proofs.Ytfidmjpjfigmcaa.Cm
