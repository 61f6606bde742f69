
/- expressions: Parse's walk -/
import Derived.Test.YtkkanggkbbmfnaaGreatDoorCn6
namespace Go.Proofs.YtkkanggkbbmfnaaGreatDoor.Cn
open Go.RowKit Go.Lib Go.Proofs.YtkkanggkbbmfnaaGreatDoor.Rg Go.Proofs.YtkkanggkbbmfnaaGreatDoor.Ht
set_option linter.unusedVariables false

theorem parse_long (s : L) (w : World) (h : 128 < s.length) :
    Calls Tryz.prog 25 #[S s] w fun e w' => e = .returned (.tuple #[exv (parseV s), .int .i64 (parseE s : Nat)]) ∧ Below w.heap.size w w' := by
  have hz := size_S s
  have e1 : parseE s = 15 := by unfold parseE; rw [if_pos h]
  have e2 : parseV s = Ex.zero := by unfold parseV; rw [e1]; rfl
  rw [e1, e2]
  go_enter Tryz.func25, Tryz.ntmps25
  go_wp2_with fail
  refine bodyPost_ret (v := .tuple #[exv Ex.zero, .int .i64 15]) ?_ rfl ⟨rfl, ?_⟩
  · rw [Ca.results_c2 rfl]
    go_simp
    exact ⟨rfl, rfl, rfl, rfl, rfl, rfl, rfl⟩
  · (repeat' (first | exact Below.refl _ _ | refine Below.setCell ?_ (by simp <;> omega) _ | refine Below.alloc ?_ (by simp <;> omega) _))
theorem parse_count (s : L) (w : World) (h : s.length ≤ 128) (hc : (sp 32 s).length ≠ 5) (hm : Mx w) :
    Calls Tryz.prog 25 #[S s] w fun e w' => e = .returned (.tuple #[exv (parseV s), .int .i64 (parseE s : Nat)]) ∧ Below w.heap.size w w' := by
  have hz := size_S s
  have e1 : parseE s = 2 := by unfold parseE; rw [if_neg (by omega), if_neg hc]
  have e2 : parseV s = Ex.zero := by unfold parseV; rw [e1]; rfl
  rw [e1, e2]
  have hsp := split_any s 32 (w.alloc (.cells (exC Ex.zero) 57)) (by omega) (hm.old ((Below.refl _ _).alloc (Nat.le_refl _) _))
  have hcI : (((sp 32 s).length : Int) != 5) = true := by simp; omega
  generalize (sp 32 s) = ts at hsp hcI
  have HS := Lib.hid hsp
  clear hsp hc
  go_enter Tryz.func25, Tryz.ntmps25
  go_wp2_with fail
  refine HS.out.mono ?_
  rintro e w1 ⟨rfl, hw1⟩
  have hb1 : Below w.heap.size w w1 := by rw [hw1]; exact ((Below.refl _ _).alloc (Nat.le_refl _) _).alloc (by simp) _
  have hg : w1.heap[w.heap.size]? = some (.cells (exC Ex.zero) 57 (0, 0)) := by rw [hw1]; exact (Below.heap_alloc _ _ _ (by simp)).trans (heap_alloc_new w _)
  obtain ⟨⟨c0, c1, c2, c3, c4, c5, c6⟩, f0, f1, f2, f3, f4, f5, f6⟩ := seven hg
  have H1 := Lib.hid hb1
  clear hb1 hg hw1
  go_wp2_with fail
  refine bodyPost_ret (v := .tuple #[exv Ex.zero, .int .i64 2]) ?_ rfl ⟨rfl, ?_⟩
  · rw [Ca.results_c2 rfl]
    go_simp
    exact ⟨rfl, rfl, rfl, rfl, rfl, rfl, rfl⟩
  · exact (((((((H1.out.setCell (Nat.le_refl _) _).setCell (Nat.le_refl _) _).setCell (Nat.le_refl _) _).setCell (Nat.le_refl _) _).setCell (Nat.le_refl _) _).setCell (Nat.le_refl _) _).setCell (Nat.le_refl _) _)
/-- Parse's memory -/
structure Pz (w : World) (ts : List L) (m : Nat) (W : World) : Prop where
  res : W.heap[w.heap.size]? = some (.cells (exC Ex.zero) 57 (0, 0))
  row : W.heap[w.heap.size + 1]? = some (.cells (ts.map fun l => S l).toArray 9 (0, 0))
  arr : W.heap[w.heap.size + 2]? = some (.cells (avC ts m) 75 (0, 0))
  ok : ∀ j, j < m → ∀ t, ts[j]? = some t → errF (fds j) (sp 44 t) = 0
  bel : Below w.heap.size w W
theorem Pz.old {w : World} {ts : List L} {m : Nat} {W W' : World} (h : Pz w ts m W) (hb : Below W.heap.size W W') : Pz w ts m W' :=
  ⟨old_blk hb h.res, old_blk hb h.row, old_blk hb h.arr, h.ok, h.bel.trans (hb.mono h.bel.size)⟩
set_option maxRecDepth 20000 in
theorem index_fld (m : Nat) (hm : m < 5) (W : World) :
    (Instr.index 78 (.agg #[.int .i64 0, .int .i64 59, S [], .int .i64 0, .int .i64 23, S [], .int .i64 1, .int .i64 31, S [], .int .i64 1, .int .i64 12, S (fds 3).nm, .int .i64 0, .int .i64 7, S (fds 4).nm]) (.int .i64 (m : Nat))).run Tryz.prog W = .ok (fdv (fds m)) W := by
  have : m = 0 ∨ m = 1 ∨ m = 2 ∨ m = 3 ∨ m = 4 := by omega
  rcases this with rfl | rfl | rfl | rfl | rfl <;> go_simp <;> rfl
theorem beq_dec (x y : L) : (x == y) = decide (x = y) := by rw [Bool.eq_iff_iff]; simp
abbrev res7 (W : World) (b : Nat) (v0 v1 v2 v3 v4 v5 v6 : Value) : World := ((((((W.setCell ⟨b, 0, none⟩ v0).setCell ⟨b, 1, none⟩ v1).setCell ⟨b, 2, none⟩ v2).setCell ⟨b, 3, none⟩ v3).setCell ⟨b, 4, none⟩ v4).setCell ⟨b, 5, none⟩ v5).setCell ⟨b, 6, none⟩ v6
theorem res_other {k : Nat} (W : World) (b : Nat) (v0 v1 v2 v3 v4 v5 v6 : Value) (h : k ≠ b) : (res7 W b v0 v1 v2 v3 v4 v5 v6).heap[k]? = W.heap[k]? := by
  simp only [res7]
  repeat rw [heap_setCell_other _ _ _ _ h]
theorem drew_heap (X : World) : X.drew.heap = X.heap := rfl
theorem res_drew {k b : Nat} {o : Option Obj} (W : World) (v0 v1 v2 v3 v4 v5 v6 : Value) (h : k ≠ b) (e : W.heap[k]? = o) : (res7 W b v0 v1 v2 v3 v4 v5 v6).drew.heap[k]? = o := by
  rw [drew_heap, res_other _ _ _ _ _ _ _ _ _ h]; exact e
theorem below_res7 {a W : World} {b : Nat} (h : Below b a W) (v0 v1 v2 v3 v4 v5 v6 : Value) : Below b a (res7 W b v0 v1 v2 v3 v4 v5 v6) :=
  ((((((h.setCell (p := ⟨b, 0, none⟩) (Nat.le_refl _) _).setCell (p := ⟨b, 1, none⟩) (Nat.le_refl _) _).setCell (p := ⟨b, 2, none⟩) (Nat.le_refl _) _).setCell (p := ⟨b, 3, none⟩) (Nat.le_refl _) _).setCell (p := ⟨b, 4, none⟩) (Nat.le_refl _) _).setCell (p := ⟨b, 5, none⟩) (Nat.le_refl _) _).setCell (p := ⟨b, 6, none⟩) (Nat.le_refl _) _
theorem row_cell {W : World} {b : Nat} {ts : List L} {t : TypeId} {m : Nat} {x : L} (h : W.heap[b]? = some (.cells (ts.map fun l => S l).toArray t (0, 0))) (hx : ts[m]? = some x) : W.cell? ⟨b, m, none⟩ = some (S x) := by
  simp [World.cell?, h, hx]
theorem arr_cell {W : World} {b : Nat} {ts : List L} {t : TypeId} {m k : Nat} (h : W.heap[b]? = some (.cells (avC ts m) t (0, 0))) (hk : k < 5) : W.cell? ⟨b, k, none⟩ = some (u (av ts m k)) := by
  have : k = 0 ∨ k = 1 ∨ k = 2 ∨ k = 3 ∨ k = 4 := by omega
  rcases this with rfl | rfl | rfl | rfl | rfl <;> simp [World.cell?, h]
set_option maxRecDepth 20000 in
set_option maxHeartbeats 4000000 in
theorem parse_five (s : L) (w : World) (h : s.length ≤ 128) (hc : (sp 32 s).length = 5) (hg : Gl w) :
    Calls Tryz.prog 25 #[S s] w fun e w' => e = .returned (.tuple #[exv (parseV s), .int .i64 (parseE s : Nat)]) ∧ Below w.heap.size w w' := by
  have hz := size_S s
  have e1 : parseE s = errs 0 (sp 32 s) := by unfold parseE; rw [if_neg (by omega), if_pos hc]
  have hsp := split_any s 32 (w.alloc (.cells (exC Ex.zero) 57)) (by omega) (hg.mx.old ((Below.refl _ _).alloc (Nat.le_refl _) _))
  have htl : ∀ t ∈ sp 32 s, t.length ≤ 1000 := fun t ht => by have := (sp_mem_len ht).1; omega
  obtain ⟨ts, hts⟩ : ∃ ts, ts = sp 32 s := ⟨_, rfl⟩
  rw [← hts] at hsp hc htl e1
  rw [hc] at hsp
  obtain ⟨EV, hEV⟩ : ∃ e, e = parseV s := ⟨_, rfl⟩
  obtain ⟨EE, hEE⟩ : ∃ e, e = parseE s := ⟨_, rfl⟩
  rw [← hEV, ← hEE]
  have hE : EE = errs 0 ts ∧ EV = if errs 0 ts = 0 then exOf ts else Ex.zero := by
    refine ⟨hEE.trans e1, ?_⟩
    rw [hEV, ← e1, hts]; rfl
  have HS := Lib.hid hsp
  have HE := Lib.hid (And.intro hE (And.intro hc htl))
  have HGl := Lib.hid hg
  clear hsp hE hEV hEE e1 htl hts hc hg
  have hmix : Tryz.prog.follows .mixedOrders = true := by kernel_rfl
  go_enter Tryz.func25, Tryz.ntmps25
  go_wp2_with fail
  refine HS.out.mono ?_
  rintro e w1 ⟨rfl, hw1⟩
  obtain ⟨V, hV⟩ : ∃ V, V = w1.alloc (.cells #[.int .u64 0, .int .u64 0, .int .u64 0, .int .u64 0, .int .u64 0] 75) := ⟨_, rfl⟩
  have hz1 : w1.heap.size = w.heap.size + 2 := by rw [hw1]; simp
  have hb1 : Below w.heap.size w w1 := by rw [hw1]; exact ((Below.refl _ _).alloc (Nat.le_refl _) _).alloc (by simp) _
  have hpz : Pz w ts 0 V := by
    refine ⟨?_, ?_, ?_, fun j hj => absurd hj (Nat.not_lt_zero j), ?_⟩
    · rw [hV]; refine (Below.heap_alloc _ _ _ (by omega)).trans ?_
      rw [hw1]; exact (Below.heap_alloc _ _ _ (by simp)).trans (heap_alloc_new w _)
    · rw [hV]; refine (Below.heap_alloc _ _ _ (by omega)).trans ?_
      have := heap_alloc_new (w.alloc (.cells (exC Ex.zero) 57)) (.cells (ts.map fun l => S l).toArray 9)
      rw [World.size_alloc] at this
      rw [hw1]; exact this
    · rw [avC_zero, ← hz1, hV]; exact heap_alloc_new w1 (.cells #[.int .u64 0, .int .u64 0, .int .u64 0, .int .u64 0, .int .u64 0] 75)
    · rw [hV]; exact hb1.alloc hb1.size _
  have hgl := HGl.out.old hpz.bel
  have hgl1 := HGl.out.old hb1
  have hlt0 : 0 < w1.heap.size := by rw [hz1]; omega
  have q0 : w1.cell? ⟨0, 0, none⟩ = some (.int .i64 0) := hgl1.fld 0 _ rfl
  have q1 : w1.cell? ⟨0, 1, none⟩ = some (.int .i64 59) := hgl1.fld 1 _ rfl
  have q2 : w1.cell? ⟨0, 2, none⟩ = some (S []) := hgl1.fld 2 _ rfl
  have q3 : w1.cell? ⟨0, 3, none⟩ = some (.int .i64 0) := hgl1.fld 3 _ rfl
  have q4 : w1.cell? ⟨0, 4, none⟩ = some (.int .i64 23) := hgl1.fld 4 _ rfl
  have q5 : w1.cell? ⟨0, 5, none⟩ = some (S []) := hgl1.fld 5 _ rfl
  have q6 : w1.cell? ⟨0, 6, none⟩ = some (.int .i64 1) := hgl1.fld 6 _ rfl
  have q7 : w1.cell? ⟨0, 7, none⟩ = some (.int .i64 31) := hgl1.fld 7 _ rfl
  have q8 : w1.cell? ⟨0, 8, none⟩ = some (S []) := hgl1.fld 8 _ rfl
  have q9 : w1.cell? ⟨0, 9, none⟩ = some (.int .i64 1) := hgl1.fld 9 _ rfl
  have q10 : w1.cell? ⟨0, 10, none⟩ = some (.int .i64 12) := hgl1.fld 10 _ rfl
  have q11 : w1.cell? ⟨0, 11, none⟩ = some (S (fds 3).nm) := hgl1.fld 11 _ rfl
  have q12 : w1.cell? ⟨0, 12, none⟩ = some (.int .i64 0) := hgl1.fld 12 _ rfl
  have q13 : w1.cell? ⟨0, 13, none⟩ = some (.int .i64 7) := hgl1.fld 13 _ rfl
  have q14 : w1.cell? ⟨0, 14, none⟩ = some (S (fds 4).nm) := hgl1.fld 14 _ rfl
  have HP := Lib.hid (And.intro hpz hgl)
  have HV := Lib.hid (And.intro hV hz1)
  clear hpz hgl hgl1 hV hz1 hb1 hw1
  go_wp2_with fail
  rw [← HV.out.1, HV.out.2]
  clear q0 q1 q2 q3 q4 q5 q6 q7 q8 q9 q10 q11 q12 q13 q14
  go_loopw [20] (fun i wr => ∃ m : Nat, i = .int .i64 (m : Nat) ∧ m ≤ 5 ∧ Pz w ts m wr) (fun i _ => 5 - (RowKit.intOf i).toNat)
  case atStart => exact ⟨0, rfl, by omega, HP.out.1⟩
  case round =>
    obtain ⟨m, rfl, hm, hpz⟩ := hrel
    have HP2 := Lib.hid hpz
    clear hpz
    by_cases hlt : m < 5
    · have hltI : (m : Int) < 5 := by omega
      have hix := index_fld m hlt
      obtain ⟨x, hx⟩ : ∃ x, ts[m]? = some x := by rw [List.getElem?_eq_getElem (by rw [HE.out.2.1]; exact hlt)]; exact ⟨_, rfl⟩
      have hxl := HE.out.2.2 x (List.mem_of_getElem? hx)
      have hfp := fun W (hm : Mx W) => fparse_any (fds m) (fds_ok m) x W hxl hm
      have hXE : (if errF (fds m) (sp 44 x) = 0 then fv m x else 0) = (if errF (fds m) (sp 44 x) = 0 then mk (setF (fds m) (sp 44 x)) else 0) := rfl
      obtain ⟨XV, hXV⟩ : ∃ v, v = (if errF (fds m) (sp 44 x) = 0 then mk (setF (fds m) (sp 44 x)) else 0) := ⟨_, rfl⟩
      obtain ⟨XE, hXEe⟩ : ∃ v, v = errF (fds m) (sp 44 x) := ⟨_, rfl⟩
      simp only [← hXV] at hfp
      simp only [← hXEe] at hfp
      have HF := Lib.hid hfp
      have HXV := Lib.hid (And.intro (hXV.trans hXE.symm) hXEe)
      clear hfp hXV hXEe hXE
      go_wp2_with fail
      obtain ⟨A0, hA0⟩ : ∃ A, A = wr.alloc (.cells #[.int .i64 ((fds m).lo : Nat), .int .i64 ((fds m).hi : Nat), S (fds m).nm] 77) := ⟨_, rfl⟩
      have hbA : Below wr.heap.size wr A0 := by rw [hA0]; exact (Below.refl _ _).alloc (Nat.le_refl _) _
      have hgA : A0.heap[wr.heap.size]? = some (.cells #[.int .i64 ((fds m).lo : Nat), .int .i64 ((fds m).hi : Nat), S (fds m).nm] 77 (0, 0)) := by rw [hA0]; exact heap_alloc_new wr _
      rw [← hA0]
      have hpA := HP2.out.old hbA
      have HS1 := Lib.hid (show A0.drew.heap[wr.heap.size]? = some (.cells #[.int .i64 ((fds m).lo : Nat), .int .i64 ((fds m).hi : Nat), S (fds m).nm] 77 (0, 0)) ∧ A0.drew.heap[w.heap.size + 1]? = some (.cells (ts.map fun l => S l).toArray 9 (0, 0)) from ⟨hgA, hpA.row⟩)
      have HG := Lib.hid (And.intro hpA (show Mx A0.drew from (HGl.out.old hpA.bel).mx.old (Below.refl _ _).drew))
      have HX0 := Lib.hid hbA
      clear hbA hgA hA0 hpA hix
      -- REGION11
      refine begin' 13 (fun Y => Y.heap[wr.heap.size]? = some (.cells #[.int .i64 ((fds m).lo : Nat), .int .i64 ((fds m).hi : Nat), S (fds m).nm] 77 (0, 0)) ∧ Y.heap[w.heap.size + 1]? = some (.cells (ts.map fun l => S l).toArray 9 (0, 0))) hmix HS1.out (fun hS0 => ?_)
      refine Ht.takeN (i := 0) ⟨some 25, _, _, _, _, _⟩ (.int .i64 (m : Nat)) rfl (Nat.le_refl 13) (by kernel_rfl) (by kernel_rfl) (by kernel_rfl) (by kernel_rfl) hS0 (Or.inl ⟨by rfl, by (intro X hX; go_simp)⟩) ?_
      simp only [Act.put, List.setIfInBounds_toArray, List.set_cons_zero, List.set_cons_succ]
      refine Ht.takeN (i := 1) ⟨some 26, _, _, _, _, _⟩ (.agg #[.int .i64 ((fds m).lo : Nat), .int .i64 ((fds m).hi : Nat), S (fds m).nm]) rfl (Nat.le_refl 13) (by kernel_rfl) (by kernel_rfl) (by kernel_rfl) (by kernel_rfl) hS0 (Or.inl ⟨by rfl, by (intro X hX; obtain ⟨⟨h1, h2, h3⟩, _⟩ := three hX.1; go_simp)⟩) ?_
      simp only [Act.put, List.setIfInBounds_toArray, List.set_cons_zero, List.set_cons_succ]
      refine Ht.takeN (i := 2) ⟨some 27, _, _, _, _, _⟩ (.slice (some ⟨w.heap.size + 1, 0, none⟩) 5 5) rfl (Nat.le_refl 13) (by kernel_rfl) (by kernel_rfl) (by kernel_rfl) (by kernel_rfl) hS0 (Or.inl ⟨by rfl, by (intro X hX; go_simp)⟩) ?_
      simp only [Act.put, List.setIfInBounds_toArray, List.set_cons_zero, List.set_cons_succ]
      refine Ht.takeN (i := 3) ⟨some 28, _, _, _, _, _⟩ (.int .i64 (m : Nat)) rfl (Nat.le_refl 13) (by kernel_rfl) (by kernel_rfl) (by kernel_rfl) (by kernel_rfl) hS0 (Or.inl ⟨by rfl, by (intro X hX; go_simp)⟩) ?_
      simp only [Act.put, List.setIfInBounds_toArray, List.set_cons_zero, List.set_cons_succ]
      refine Ht.takeN (i := 4) ⟨some 29, _, _, _, _, _⟩ (.pointer (some ⟨w.heap.size + 1, m, none⟩)) rfl (Nat.le_refl 13) (by kernel_rfl) (by kernel_rfl) (by kernel_rfl) (by kernel_rfl) hS0 (Or.inl ⟨by rfl, by (intro X hX; go_simp)⟩) ?_
      simp only [Act.put, List.setIfInBounds_toArray, List.set_cons_zero, List.set_cons_succ]
      refine Ht.takeN (i := 5) ⟨some 30, _, _, _, _, _⟩ (S x) rfl (Nat.le_refl 13) (by kernel_rfl) (by kernel_rfl) (by kernel_rfl) (by kernel_rfl) hS0 (Or.inl ⟨by rfl, by (intro X hX; have := row_cell hX.2 hx; go_simp)⟩) ?_
      simp only [Act.put, List.setIfInBounds_toArray, List.set_cons_zero, List.set_cons_succ]
      refine Ht.step (i := 6) ⟨some 31, _, _, _, _, _⟩ rfl (by kernel_rfl) (by rfl) (fun K hK => ?_)
      refine Ht.enter 40 #[fdv (fds m), S x] (by have hen := fun args w => enters_of (P := Tryz.prog) Tryz.func40 (by kernel_rfl) rfl args w; go_simp) (HF.out _ HG.out.2) ?_
      rintro e A1 ⟨rfl, hb1⟩
      have hS1' := And.intro (old_blk hb1 hS0.1) (old_blk hb1 hS0.2)
      have HB1 := Lib.hid hb1
      clear hb1
      refine ⟨_, rfl, hK _ _ (fun _ => hS1') (fun _ => ?_)⟩
      clear hK K
      simp only [Act.put, List.setIfInBounds_toArray, List.set_cons_zero, List.set_cons_succ]
      refine Ht.takeN (i := 7) ⟨some 24, _, _, _, _, _⟩ (.tuple #[u XV, .int .i64 (XE : Nat)]) rfl (Nat.le_refl 13) (by kernel_rfl) (by kernel_rfl) (by kernel_rfl) (by kernel_rfl) hS1' (Or.inl ⟨by rfl, by (intro X hX; go_simp)⟩) ?_
      simp only [Act.put, List.setIfInBounds_toArray, List.set_cons_zero, List.set_cons_succ]
      refine Ht.takeN (i := 8) ⟨some 32, _, _, _, _, _⟩ (u XV) rfl (Nat.le_refl 13) (by kernel_rfl) (by kernel_rfl) (by kernel_rfl) (by kernel_rfl) hS1' (Or.inl ⟨by rfl, by (intro X hX; go_simp)⟩) ?_
      simp only [Act.put, List.setIfInBounds_toArray, List.set_cons_zero, List.set_cons_succ]
      refine Ht.takeN (i := 9) ⟨some 33, _, _, _, _, _⟩ (.int .i64 (XE : Nat)) rfl (Nat.le_refl 13) (by kernel_rfl) (by kernel_rfl) (by kernel_rfl) (by kernel_rfl) hS1' (Or.inl ⟨by rfl, by (intro X hX; go_simp)⟩) ?_
      simp only [Act.put, List.setIfInBounds_toArray, List.set_cons_zero, List.set_cons_succ]
      refine Ht.takeN (i := 10) ⟨some 34, _, _, _, _, _⟩ (.pointer (some ⟨w.heap.size + 2, m, none⟩)) rfl (Nat.le_refl 13) (by kernel_rfl) (by kernel_rfl) (by kernel_rfl) (by kernel_rfl) hS1' (Or.inl ⟨by rfl, by (intro X hX; go_simp)⟩) ?_
      simp only [Act.put, List.setIfInBounds_toArray, List.set_cons_zero, List.set_cons_succ]
      refine Ht.step (i := 11) ⟨none, _, _, _, _, _⟩ rfl (by kernel_rfl) (by rfl) (fun K hK => ?_)
      have hz0 := (old_blk HB1.out (show A0.drew.heap[w.heap.size + 2]? = _ from HG.out.1.arr))
      have cA := arr_cell hz0 hlt
      have fA : A1.frozen? ⟨w.heap.size + 2, m, none⟩ = false := by simp [World.frozen?, hz0]
      have hne : w.heap.size + 2 ≠ wr.heap.size := by have := HP2.out.arr; have := (Array.getElem?_eq_some_iff.1 this).1; omega
      have HZ0 := Lib.hid hz0
      clear hz0
      go_simp
      have hS2 : (A1.setCell ⟨w.heap.size + 2, m, none⟩ (u XV)).heap[wr.heap.size]? = some (.cells #[.int .i64 ((fds m).lo : Nat), .int .i64 ((fds m).hi : Nat), S (fds m).nm] 77 (0, 0)) ∧ (A1.setCell ⟨w.heap.size + 2, m, none⟩ (u XV)).heap[w.heap.size + 1]? = some (.cells (ts.map fun l => S l).toArray 9 (0, 0)) :=
        ⟨(heap_setCell_other _ _ _ _ (by show wr.heap.size ≠ w.heap.size + 2; omega)).trans hS1'.1, (heap_setCell_other _ _ _ _ (by simp)).trans hS1'.2⟩
      refine hK _ _ (fun _ => hS2) (fun _ => ?_)
      clear hK K
      try simp only [Act.put, List.setIfInBounds_toArray, List.set_cons_zero, List.set_cons_succ]
      refine Ht.takeN (i := 12) ⟨some 8, _, _, _, _, _⟩ (.int .i64 (XE : Nat)) rfl (Nat.le_refl 13) (by kernel_rfl) (by kernel_rfl) (by kernel_rfl) (by kernel_rfl) hS2 (Or.inl ⟨by rfl, by (intro X hX; go_simp)⟩) ?_
      simp only [Act.put, List.setIfInBounds_toArray, List.set_cons_zero, List.set_cons_succ]
      refine done (by kernel_rfl) ?_
      -- END11
      have hb2 : Below wr.heap.size wr A0 := HX0.out
      have hpA1 : Pz w ts m A1 := HG.out.1.old (show Below A0.heap.size A0 A1 from (Below.refl _ _).drew.trans HB1.out)
      have hxv := HXV.out
      clear hS0 hS1' cA fA hne
      by_cases he : XE = 0
      · have hv : XV = fv m (ts.getD m []) := by rw [hxv.1, ← hxv.2, if_pos he]; simp [List.getD, hx]
        have hres : Pz w ts (m + 1) (A1.setCell ⟨w.heap.size + 2, m, none⟩ (u XV)) := by
          refine ⟨(heap_setCell_other _ _ _ _ (by simp)).trans hpA1.res, (heap_setCell_other _ _ _ _ (by simp)).trans hpA1.row, ?_, ?_, hpA1.bel.setCell (Nat.le_add_right _ _) _⟩
          · rw [heap_setCell_same A1 (w.heap.size + 2) m _ _ (u XV) hpA1.arr, hv, avC_next ts hlt]
          · intro j hj t ht
            by_cases hjm : j = m
            · subst hjm
              rw [hx] at ht
              obtain rfl := Option.some.inj ht
              rw [← hxv.2, he]
            · exact hpA1.ok j (by omega) t ht
        have HR := Lib.hid hres
        clear hres hpA1 hv hxv hb2
        subst he
        go_wp2_with fail
        go_roundw
        case rel => exact ⟨m + 1, by simp, by omega, HR.out⟩
        case measure => simp [RowKit.intOf]; omega
      · have heI : ((XE : Int) != 0) = true := by simp; omega
        obtain ⟨⟨c0, c1, c2, c3, c4, c5, c6⟩, f0, f1, f2, f3, f4, f5, f6⟩ := seven hpA1.res
        have hEE : EE = XE := HE.out.1.1.trans ((errs_at hpA1.ok hx (by rw [← hxv.2]; exact he)).trans hxv.2.symm)
        have hEV : EV = Ex.zero := by rw [HE.out.1.2, ← HE.out.1.1, hEE, if_neg he]
        have HX1 := Lib.hid (And.intro hpA1.bel (And.intro hEE hEV))
        clear hpA1 hxv hb2 he hEE hEV hx
        go_wp2_with fail
        refine bodyPost_ret (v := .tuple #[exv Ex.zero, .int .i64 (XE : Nat)]) ?_ rfl ⟨by rw [HX1.out.2.1, HX1.out.2.2], ?_⟩
        · rw [Ca.results_c2 rfl]
          go_simp
          exact ⟨rfl, rfl, rfl, rfl, rfl, rfl, rfl⟩
        · exact ((((((((HX1.out.1.setCell (p := ⟨w.heap.size + 2, m, none⟩) (Nat.le_add_right _ _) _).setCell (Nat.le_refl _) _).setCell (Nat.le_refl _) _).setCell (Nat.le_refl _) _).setCell (Nat.le_refl _) _).setCell (Nat.le_refl _) _).setCell (Nat.le_refl _) _).setCell (Nat.le_refl _) _)
    · have hm5 : m = 5 := by omega
      subst hm5
      obtain ⟨x2, hx2⟩ : ∃ x, ts[2]? = some x := by rw [List.getElem?_eq_getElem (by rw [HE.out.2.1]; decide)]; exact ⟨_, rfl⟩
      obtain ⟨x4, hx4⟩ : ∃ x, ts[4]? = some x := by rw [List.getElem?_eq_getElem (by rw [HE.out.2.1]; decide)]; exact ⟨_, rfl⟩
      have hEE : EE = 0 := HE.out.1.1.trans (errs_ok (by rw [HE.out.2.1]; exact HP2.out.ok))
      have hEV : EV = exOf ts := by rw [HE.out.1.2, ← HE.out.1.1, hEE, if_pos rfl]
      have h4 : av ts 5 4 = mk (setF (fds 4) (sp 44 (ts.getD 4 []))) := rfl
      have hfd := fun W => folded_any (setF (fds 4) (sp 44 (ts.getD 4 []))) W
      rw [← h4] at hfd
      have harr := HP2.out.arr
      obtain ⟨FV, hFV⟩ : ∃ v, v = mk (fold (setF (fds 4) (sp 44 (ts.getD 4 [])))) := ⟨_, rfl⟩
      obtain ⟨W0, hW0⟩ : ∃ v, v = av ts 5 0 := ⟨_, rfl⟩
      obtain ⟨W1, hW1⟩ : ∃ v, v = av ts 5 1 := ⟨_, rfl⟩
      obtain ⟨W2, hW2⟩ : ∃ v, v = av ts 5 2 := ⟨_, rfl⟩
      obtain ⟨W3, hW3⟩ : ∃ v, v = av ts 5 3 := ⟨_, rfl⟩
      obtain ⟨W4, hW4⟩ : ∃ v, v = av ts 5 4 := ⟨_, rfl⟩
      simp only [← hFV, ← hW4] at hfd
      simp only [avC, ← hW0, ← hW1, ← hW2, ← hW3, ← hW4] at harr
      have hE2 : exOf ts = ⟨W0, W1, W2, W3, FV, x2 == [42], x4 == [42]⟩ := by
        have e2 : ts.getD 2 [] = x2 := by simp [List.getD, hx2]
        have e4 : ts.getD 4 [] = x4 := by simp [List.getD, hx4]
        have a2 : av ts 5 2 = fv 2 x2 := by rw [← e2]; rfl
        unfold exOf
        rw [hW0, hW1, hW2, hW3, hFV, a2, e2, e4, beq_dec, beq_dec]
        rfl
      have HF := Lib.hid hfd
      have HA := Lib.hid (And.intro harr HP2.out.row)
      have HS1 := Lib.hid (show wr.drew.heap[w.heap.size + 2]? = some (.cells #[u W0, u W1, u W2, u W3, u W4] 75 (0, 0)) ∧ wr.drew.heap[w.heap.size + 1]? = some (.cells (ts.map fun l => S l).toArray 9 (0, 0)) from ⟨harr, HP2.out.row⟩)
      have HX1 := Lib.hid (And.intro HP2.out.bel (And.intro hEE (hEV.trans hE2)))
      clear hfd harr hEE hEV hE2 hFV hW0 hW1 hW2 hW3 hW4 h4
      go_wp2_with fail
      -- REGION15
      refine begin' 22 (fun Y => Y.heap[w.heap.size + 2]? = some (.cells #[u W0, u W1, u W2, u W3, u W4] 75 (0, 0)) ∧ Y.heap[w.heap.size + 1]? = some (.cells (ts.map fun l => S l).toArray 9 (0, 0))) hmix HS1.out (fun hS0 => ?_)
      refine Ht.takeN (i := 0) ⟨some 40, _, _, _, _, _⟩ (.pointer (some ⟨w.heap.size + 2, 0, none⟩)) rfl (Nat.le_refl 22) (by kernel_rfl) (by kernel_rfl) (by kernel_rfl) (by kernel_rfl) hS0 (Or.inl ⟨by rfl, by (intro X hX; go_simp)⟩) ?_
      simp only [Act.put, List.setIfInBounds_toArray, List.set_cons_zero, List.set_cons_succ]
      refine Ht.takeN (i := 1) ⟨some 41, _, _, _, _, _⟩ (u W0) rfl (Nat.le_refl 22) (by kernel_rfl) (by kernel_rfl) (by kernel_rfl) (by kernel_rfl) hS0 (Or.inl ⟨by rfl, by (intro X hX; obtain ⟨⟨h0, h1, h2, h3, h4⟩, _⟩ := five hX.1; go_simp)⟩) ?_
      simp only [Act.put, List.setIfInBounds_toArray, List.set_cons_zero, List.set_cons_succ]
      refine Ht.takeN (i := 2) ⟨some 42, _, _, _, _, _⟩ (.pointer (some ⟨w.heap.size + 2, 1, none⟩)) rfl (Nat.le_refl 22) (by kernel_rfl) (by kernel_rfl) (by kernel_rfl) (by kernel_rfl) hS0 (Or.inl ⟨by rfl, by (intro X hX; go_simp)⟩) ?_
      simp only [Act.put, List.setIfInBounds_toArray, List.set_cons_zero, List.set_cons_succ]
      refine Ht.takeN (i := 3) ⟨some 43, _, _, _, _, _⟩ (u W1) rfl (Nat.le_refl 22) (by kernel_rfl) (by kernel_rfl) (by kernel_rfl) (by kernel_rfl) hS0 (Or.inl ⟨by rfl, by (intro X hX; obtain ⟨⟨h0, h1, h2, h3, h4⟩, _⟩ := five hX.1; go_simp)⟩) ?_
      simp only [Act.put, List.setIfInBounds_toArray, List.set_cons_zero, List.set_cons_succ]
      refine Ht.takeN (i := 4) ⟨some 44, _, _, _, _, _⟩ (.pointer (some ⟨w.heap.size + 2, 2, none⟩)) rfl (Nat.le_refl 22) (by kernel_rfl) (by kernel_rfl) (by kernel_rfl) (by kernel_rfl) hS0 (Or.inl ⟨by rfl, by (intro X hX; go_simp)⟩) ?_
      simp only [Act.put, List.setIfInBounds_toArray, List.set_cons_zero, List.set_cons_succ]
      refine Ht.takeN (i := 5) ⟨some 45, _, _, _, _, _⟩ (u W2) rfl (Nat.le_refl 22) (by kernel_rfl) (by kernel_rfl) (by kernel_rfl) (by kernel_rfl) hS0 (Or.inl ⟨by rfl, by (intro X hX; obtain ⟨⟨h0, h1, h2, h3, h4⟩, _⟩ := five hX.1; go_simp)⟩) ?_
      simp only [Act.put, List.setIfInBounds_toArray, List.set_cons_zero, List.set_cons_succ]
      refine Ht.takeN (i := 6) ⟨some 46, _, _, _, _, _⟩ (.pointer (some ⟨w.heap.size + 2, 3, none⟩)) rfl (Nat.le_refl 22) (by kernel_rfl) (by kernel_rfl) (by kernel_rfl) (by kernel_rfl) hS0 (Or.inl ⟨by rfl, by (intro X hX; go_simp)⟩) ?_
      simp only [Act.put, List.setIfInBounds_toArray, List.set_cons_zero, List.set_cons_succ]
      refine Ht.takeN (i := 7) ⟨some 47, _, _, _, _, _⟩ (u W3) rfl (Nat.le_refl 22) (by kernel_rfl) (by kernel_rfl) (by kernel_rfl) (by kernel_rfl) hS0 (Or.inl ⟨by rfl, by (intro X hX; obtain ⟨⟨h0, h1, h2, h3, h4⟩, _⟩ := five hX.1; go_simp)⟩) ?_
      simp only [Act.put, List.setIfInBounds_toArray, List.set_cons_zero, List.set_cons_succ]
      refine Ht.takeN (i := 8) ⟨some 48, _, _, _, _, _⟩ (.pointer (some ⟨w.heap.size + 2, 4, none⟩)) rfl (Nat.le_refl 22) (by kernel_rfl) (by kernel_rfl) (by kernel_rfl) (by kernel_rfl) hS0 (Or.inl ⟨by rfl, by (intro X hX; go_simp)⟩) ?_
      simp only [Act.put, List.setIfInBounds_toArray, List.set_cons_zero, List.set_cons_succ]
      refine Ht.takeN (i := 9) ⟨some 49, _, _, _, _, _⟩ (u W4) rfl (Nat.le_refl 22) (by kernel_rfl) (by kernel_rfl) (by kernel_rfl) (by kernel_rfl) hS0 (Or.inl ⟨by rfl, by (intro X hX; obtain ⟨⟨h0, h1, h2, h3, h4⟩, _⟩ := five hX.1; go_simp)⟩) ?_
      simp only [Act.put, List.setIfInBounds_toArray, List.set_cons_zero, List.set_cons_succ]
      refine Ht.takeN (i := 11) ⟨some 51, _, _, _, _, _⟩ (.slice (some ⟨w.heap.size + 1, 0, none⟩) 5 5) rfl (Nat.le_refl 22) (by kernel_rfl) (by kernel_rfl) (by kernel_rfl) (by kernel_rfl) hS0 (Or.inl ⟨by rfl, by (intro X hX; go_simp)⟩) ?_
      simp only [Act.put, List.setIfInBounds_toArray, List.set_cons_zero, List.set_cons_succ]
      refine Ht.takeN (i := 12) ⟨some 52, _, _, _, _, _⟩ (.pointer (some ⟨w.heap.size + 1, 2, none⟩)) rfl (Nat.le_refl 22) (by kernel_rfl) (by kernel_rfl) (by kernel_rfl) (by kernel_rfl) hS0 (Or.inl ⟨by rfl, by (intro X hX; go_simp)⟩) ?_
      simp only [Act.put, List.setIfInBounds_toArray, List.set_cons_zero, List.set_cons_succ]
      refine Ht.takeN (i := 13) ⟨some 53, _, _, _, _, _⟩ (S x2) rfl (Nat.le_refl 22) (by kernel_rfl) (by kernel_rfl) (by kernel_rfl) (by kernel_rfl) hS0 (Or.inl ⟨by rfl, by (intro X hX; have := row_cell hX.2 hx2; go_simp)⟩) ?_
      simp only [Act.put, List.setIfInBounds_toArray, List.set_cons_zero, List.set_cons_succ]
      refine Ht.takeN (i := 14) ⟨some 54, _, _, _, _, _⟩ (.bool (x2 == [42])) rfl (Nat.le_refl 22) (by kernel_rfl) (by kernel_rfl) (by kernel_rfl) (by kernel_rfl) hS0 (Or.inl ⟨by rfl, by (intro X hX; go_simp)⟩) ?_
      simp only [Act.put, List.setIfInBounds_toArray, List.set_cons_zero, List.set_cons_succ]
      refine Ht.takeN (i := 15) ⟨some 55, _, _, _, _, _⟩ (.slice (some ⟨w.heap.size + 1, 0, none⟩) 5 5) rfl (Nat.le_refl 22) (by kernel_rfl) (by kernel_rfl) (by kernel_rfl) (by kernel_rfl) hS0 (Or.inl ⟨by rfl, by (intro X hX; go_simp)⟩) ?_
      simp only [Act.put, List.setIfInBounds_toArray, List.set_cons_zero, List.set_cons_succ]
      refine Ht.takeN (i := 16) ⟨some 56, _, _, _, _, _⟩ (.pointer (some ⟨w.heap.size + 1, 4, none⟩)) rfl (Nat.le_refl 22) (by kernel_rfl) (by kernel_rfl) (by kernel_rfl) (by kernel_rfl) hS0 (Or.inl ⟨by rfl, by (intro X hX; go_simp)⟩) ?_
      simp only [Act.put, List.setIfInBounds_toArray, List.set_cons_zero, List.set_cons_succ]
      refine Ht.takeN (i := 17) ⟨some 57, _, _, _, _, _⟩ (S x4) rfl (Nat.le_refl 22) (by kernel_rfl) (by kernel_rfl) (by kernel_rfl) (by kernel_rfl) hS0 (Or.inl ⟨by rfl, by (intro X hX; have := row_cell hX.2 hx4; go_simp)⟩) ?_
      simp only [Act.put, List.setIfInBounds_toArray, List.set_cons_zero, List.set_cons_succ]
      refine Ht.takeN (i := 18) ⟨some 58, _, _, _, _, _⟩ (.bool (x4 == [42])) rfl (Nat.le_refl 22) (by kernel_rfl) (by kernel_rfl) (by kernel_rfl) (by kernel_rfl) hS0 (Or.inl ⟨by rfl, by (intro X hX; go_simp)⟩) ?_
      simp only [Act.put, List.setIfInBounds_toArray, List.set_cons_zero, List.set_cons_succ]
      refine Ht.step (i := 10) ⟨some 50, _, _, _, _, _⟩ rfl (by kernel_rfl) (by rfl) (fun K hK => ?_)
      refine Ht.enter 41 #[u W4] (by have hen := fun args w => enters_of (P := Tryz.prog) Tryz.func41 (by kernel_rfl) rfl args w; go_simp) (HF.out _) ?_
      rintro e A1 ⟨rfl, rfl⟩
      refine ⟨_, rfl, hK _ _ (fun _ => hS0) (fun _ => ?_)⟩
      clear hK K
      simp only [Act.put, List.setIfInBounds_toArray, List.set_cons_zero, List.set_cons_succ]
      refine Ht.takeN (i := 19) ⟨some 59, _, _, _, _, _⟩ (.agg #[u W0, u W1, u W2, u W3, u FV, .bool (x2 == [42]), .bool (x4 == [42])]) rfl (Nat.le_refl 22) (by kernel_rfl) (by kernel_rfl) (by kernel_rfl) (by kernel_rfl) hS0 (Or.inl ⟨by rfl, by (intro X hX; go_simp)⟩) ?_
      simp only [Act.put, List.setIfInBounds_toArray, List.set_cons_zero, List.set_cons_succ]
      refine Ht.step (i := 20) ⟨none, _, _, _, _, _⟩ rfl (by kernel_rfl) (by rfl) (fun K hK => ?_)
      obtain ⟨⟨c0, c1, c2, c3, c4, c5, c6⟩, f0, f1, f2, f3, f4, f5, f6⟩ := seven HP2.out.res
      go_simp
      have hS2 : (fun Y => Y.heap[w.heap.size + 2]? = some (.cells #[u W0, u W1, u W2, u W3, u W4] 75 (0, 0)) ∧ Y.heap[w.heap.size + 1]? = some (.cells (ts.map fun l => S l).toArray 9 (0, 0))) ((res7 wr w.heap.size (u W0) (u W1) (u W2) (u W3) (u FV) (.bool (x2 == [42])) (.bool (x4 == [42]))).drew) := by
        exact ⟨res_drew wr _ _ _ _ _ _ _ (by omega) HA.out.1, res_drew wr _ _ _ _ _ _ _ (by omega) HA.out.2⟩
      refine hK _ _ (fun _ => hS2) (fun _ => ?_)
      clear hK K
      try simp only [Act.put, List.setIfInBounds_toArray, List.set_cons_zero, List.set_cons_succ]
      refine Ht.takeN (i := 21) ⟨some 3, _, _, _, _, _⟩ (.int .i64 0) rfl (Nat.le_refl 22) (by kernel_rfl) (by kernel_rfl) (by kernel_rfl) (by kernel_rfl) hS2 (Or.inl ⟨by rfl, by (intro X hX; go_simp)⟩) ?_
      simp only [Act.put, List.setIfInBounds_toArray, List.set_cons_zero, List.set_cons_succ]
      refine done (by kernel_rfl) ?_
      -- END15
      obtain ⟨⟨c0, c1, c2, c3, c4, c5, c6⟩, f0, f1, f2, f3, f4, f5, f6⟩ := seven HP2.out.res
      go_wp2_with fail
      refine bodyPost_ret (v := .tuple #[.agg #[u W0, u W1, u W2, u W3, u FV, .bool (x2 == [42]), .bool (x4 == [42])], .int .i64 0]) ?_ rfl ⟨by rw [HX1.out.2.1, HX1.out.2.2]; rfl, ?_⟩
      · rw [Ca.results_c2 rfl]
        go_simp
      · exact below_drewN (below_res7 HX1.out.1 _ _ _ _ _ _ _) 1
theorem parse_any (s : L) (w : World) (hg : Gl w) :
    Calls Tryz.prog 25 #[S s] w fun e w' => e = .returned (.tuple #[exv (parseV s), .int .i64 (parseE s : Nat)]) ∧ Below w.heap.size w w' := by
  by_cases h : 128 < s.length
  · exact parse_long s w h
  · by_cases hc : (sp 32 s).length = 5
    · exact parse_five s w (by omega) hc hg
    · exact parse_count s w (by omega) hc hg.mx
end Go.Proofs.YtkkanggkbbmfnaaGreatDoor.Cn
