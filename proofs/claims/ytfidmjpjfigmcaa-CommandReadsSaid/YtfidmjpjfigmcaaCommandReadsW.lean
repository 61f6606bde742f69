
/- commands: the law CommandReads, walked -/
import Derived.Test.YtfidmjpjfigmcaaCmJ
import Derived.Test.YtfidmjpjfigmcaaCmF
import Derived.WalkSmall
import Derived.Deep.WholeRow
namespace Go.Proofs.Ytfidmjpjfigmcaa.Cm
open Go.RowKit Go.Lib Go.Shelf Wn Rf By Ht
open Sp (T join)
set_option linter.unusedVariables false
set_option maxRecDepth 20000
set_option maxHeartbeats 8000000 in
theorem reads_law (a : Option Addr) (n c : Nat) (l : List UInt8) (w : World) (hi : IsB w a n c l) :
    Calls Try.prog 3 #[.slice a n c] w fun e w' => e = .returned (.bool true) ∧ Below w.heap.size w w' := by
  have hmix : Try.prog.follows .mixedOrders = true := by kernel_rfl
  have HL := Lib.hid lives18_any
  have hl := hi.1
  have hle := hi.le
  unfold maxLen at hle
  have HI := Lib.hid hi
  clear hi
  go_enter Try.func3, Try.ntmps3
  go_wp2_with fail
  refine (HL.out w).mono ?_
  rintro e w1 ⟨rfl, b1⟩
  have B1 := Lib.hid b1
  clear b1
  by_cases g1 : 1200 < n
  · go_wp2_with fail
    refine (HL.out w1).mono ?_
    rintro e w2 ⟨rfl, b2⟩
    have B2 := Lib.hid (B1.out.trans (b2.mono B1.out.size))
    clear b2
    go_wp2_with fail
    go_ret
    exact ⟨rfl, B2.out⟩
  have HO := Lib.hid (Of_any a n c l w1 (HI.out.old B1.out))
  go_wp2_with fail
  refine HO.out.mono ?_
  rintro e w2 ⟨q, er, rfl, hbad, hgood, hlong, b2⟩
  have B2 := Lib.hid (B1.out.trans (b2.mono B1.out.size))
  have HGG := Lib.hid (And.intro hbad (And.intro hgood hlong))
  clear b2 HO hbad hgood hlong
  obtain ⟨V, hV⟩ : ∃ V, V = w2.alloc (.cells q.cells 31) := ⟨_, rfl⟩
  have hsc : (storeCells ⟨w2.heap.size, 0, none⟩ q.cells.toList).run Try.prog (w2.alloc (.cells #[.int .u64 0, .int .u64 0, .int .i64 0, .string ⟨#[]⟩, .string ⟨#[]⟩, .int .u64 0, .int .i64 0, .string ⟨#[]⟩, .string ⟨#[]⟩, .int .i64 0, .int .i64 0, .slice none 0 0, .int .i64 0, .int .i64 0, .int .i64 0, .int .i64 0, .string ⟨#[]⟩, .int .i64 0] 31)) = .ok () V := by
    have := run_storeCells_from (P := Try.prog) w2.heap.size 31 q.cells.toList 0 #[.int .u64 0, .int .u64 0, .int .i64 0, .string ⟨#[]⟩, .string ⟨#[]⟩, .int .u64 0, .int .i64 0, .string ⟨#[]⟩, .string ⟨#[]⟩, .int .i64 0, .int .i64 0, .slice none 0 0, .int .i64 0, .int .i64 0, .int .i64 0, .int .i64 0, .string ⟨#[]⟩, .int .i64 0] (w2.alloc (.cells #[.int .u64 0, .int .u64 0, .int .i64 0, .string ⟨#[]⟩, .string ⟨#[]⟩, .int .u64 0, .int .i64 0, .string ⟨#[]⟩, .string ⟨#[]⟩, .int .i64 0, .int .i64 0, .slice none 0 0, .int .i64 0, .int .i64 0, .int .i64 0, .int .i64 0, .string ⟨#[]⟩, .int .i64 0] 31)) (heap_alloc_new w2 _) (by show 0 + 18 = 18; rfl) (by
      intro v hv
      exact (Array.all_eq_true_iff_forall_mem.1 (ones_req q)) v (by simpa using hv))
    rw [this, hV]
    simp only [List.take_zero, List.nil_append, Array.toArray_toList, World.setRow_alloc_new]
  have hv0 : V.heap[w2.heap.size]? = some (.cells q.cells 31 (0, 0)) := by rw [hV]; exact heap_alloc_new w2 _
  have hbV : Below w2.heap.size w2 V := by rw [hV]; exact (Below.refl _ _).alloc (Nat.le_refl _) _
  have hsV : w2.heap.size < V.heap.size := lt_of_block hv0
  have HB := Lib.hid (And.intro hbV (B2.out.trans (hbV.mono B2.out.size)))
  clear hV hbV
  go_upto_region 4 with fail
  clear hsc
  have rC : V.rangeAt w2.heap.size 2 q.c.cells.toList := range_mid hv0 (fun j v hj => by
    have hj' : j < 16 := (List.getElem?_eq_some_iff.1 hj).1
    rw [← hj]
    match j, hj' with
    | 0, _ | 1, _ | 2, _ | 3, _ | 4, _ | 5, _ | 6, _ | 7, _ | 8, _ | 9, _ | 10, _ | 11, _ | 12, _ | 13, _ | 14, _ | 15, _ => rfl)
  obtain ⟨hbad, hgood, hlong⟩ := HGG.out
  by_cases he : er = 0
  · obtain ⟨qw, qd, qn, qk, ql, qo, q9⟩ := hgood he
    subst he
    have hsl : q.c.sp.ds.length = q.c.sp.n := qd.1
    have hcl : (cmdB q.c).length ≤ 1000 := by
      have := congrArg List.length ql
      unfold reqB at this
      simp only [List.length_append] at this
      omega
    have qm := cmd_med hsl qo hcl
    have qk' := isK_iff.1 qk
    have rR : V.rangeAt w2.heap.size 0 q.cells.toList := range_of (by rw [Array.toArray_toList]; exact hv0)
    have ck : V.cell? ⟨w2.heap.size, 2, none⟩ = some (.int .i64 q.c.kd) := (cell_at hv0 (i := 2) rfl).1
    have HC := Lib.hid (fun (W : World) (h : Below V.heap.size V W) => str_of (HI.out.old (HB.out.2.trans (h.mono HB.out.2.size))))
    have HQ := Lib.hid (fun (W : World) (h : Below V.heap.size V W) => refRequest_any q (w := W) qk (Sp.Dp.old (Sp.Dp.old qd HB.out.1) h) qw qm)
    have HN := Lib.hid (fun (W : World) (h : Below V.heap.size V W) => Only_any q.c W (Sp.Dp.old (Sp.Dp.old qd HB.out.1) h) (by omega))
    have HS := Lib.hid (fun (o : Cmd) (ho : Only q.c o) (W : World) (h : Below V.heap.size V W) (hdo : Sp.Dp W o.sp.a o.sp.n o.sp.ds) => by
      have := same_any q.c o (w := W) (Sp.Dp.old (Sp.Dp.old qd HB.out.1) h) hdo qw.2.2.2.2.2 (only_wf ho qw.2.2.2.2.2) qm.2.2 (only_med ho qm.2.2)
      rw [smC_yes (only_same qo ho)] at this
      exact this)
    obtain ⟨SB, hSB⟩ : ∃ S : ByteArray, S = ⟨l.toArray⟩ := ⟨_, rfl⟩
    rw [ql] at HQ
    simp only [T, ← hSB] at HQ
    rw [← hSB] at HC
    have hSS : (SB.toList == SB.toList) = true := by simp
    have HR := Lib.hid (And.intro rR rC)
    have cl : ∀ (i : Nat) (v : Value), V.cell? ⟨w2.heap.size, i, none⟩ = some v → ∀ X, Below V.heap.size V X → X.cell? ⟨w2.heap.size, i, none⟩ = some v := fun i v h X hX => (hX.cell (p := ⟨w2.heap.size, i, none⟩) hsV).trans h
    have n9 : n ≤ 900 := by omega
    obtain ⟨k0, k9⟩ := qk'
    have n9' : (n : Int) ≤ 900 := by omega
    clear hbad hgood hlong HGG qw qd qn qk ql qo q9 hsl hcl qm hv0 rR rC hSB g1
    go_wp2_with fail
    refine begin' 30 (fun ZZ => Below V.heap.size V ZZ) hmix ((Below.refl _ V).drew) (fun hS0 => ?_)
    refine Ht.takeD 8 (i := 0) ⟨some 43, _, _, _, _, _⟩ (.slice a n c) rfl (by kernel_rfl) (by kernel_rfl) (by decide) (by kernel_rfl) (by kernel_rfl) (by kernel_rfl) hS0 (Or.inl ⟨by rfl, by (intro X hX; go_simp)⟩) ?_
    simp only [Act.put, List.setIfInBounds_toArray, List.set_cons_zero, List.set_cons_succ]
    refine Ht.takeD 8 (i := 1) ⟨some 44, _, _, _, _, _⟩ (.int .i64 n) rfl (by kernel_rfl) (by kernel_rfl) (by decide) (by kernel_rfl) (by kernel_rfl) (by kernel_rfl) hS0 (Or.inl ⟨by rfl, by (intro X hX; go_simp)⟩) ?_
    simp only [Act.put, List.setIfInBounds_toArray, List.set_cons_zero, List.set_cons_succ]
    refine Ht.takeD 8 (i := 2) ⟨some 45, _, _, _, _, _⟩ (.bool true) rfl (by kernel_rfl) (by kernel_rfl) (by decide) (by kernel_rfl) (by kernel_rfl) (by kernel_rfl) hS0 (Or.inl ⟨by rfl, by (intro X hX; go_simp)⟩) ?_
    simp only [Act.put, List.setIfInBounds_toArray, List.set_cons_zero, List.set_cons_succ]
    refine Ht.takeD 8 (i := 3) ⟨some 46, _, _, _, _, _⟩ (.bool true) rfl (by kernel_rfl) (by kernel_rfl) (by decide) (by kernel_rfl) (by kernel_rfl) (by kernel_rfl) hS0 (Or.inl ⟨by rfl, by (intro X hX; go_simp)⟩) ?_
    simp only [Act.put, List.setIfInBounds_toArray, List.set_cons_zero, List.set_cons_succ]
    refine Ht.takeD 8 (i := 4) ⟨some 47, _, _, _, _, _⟩ (.pointer (some ⟨w2.heap.size, 2, none⟩)) rfl (by kernel_rfl) (by kernel_rfl) (by decide) (by kernel_rfl) (by kernel_rfl) (by kernel_rfl) hS0 (Or.inl ⟨by rfl, by (intro X hX; go_simp)⟩) ?_
    simp only [Act.put, List.setIfInBounds_toArray, List.set_cons_zero, List.set_cons_succ]
    refine Ht.takeD 8 (i := 5) ⟨some 48, _, _, _, _, _⟩ (.pointer (some ⟨w2.heap.size, 2, none⟩)) rfl (by kernel_rfl) (by kernel_rfl) (by decide) (by kernel_rfl) (by kernel_rfl) (by kernel_rfl) hS0 (Or.inl ⟨by rfl, by (intro X hX; go_simp)⟩) ?_
    simp only [Act.put, List.setIfInBounds_toArray, List.set_cons_zero, List.set_cons_succ]
    refine Ht.takeD 8 (i := 6) ⟨some 49, _, _, _, _, _⟩ (.int .i64 q.c.kd) rfl (by kernel_rfl) (by kernel_rfl) (by decide) (by kernel_rfl) (by kernel_rfl) (by kernel_rfl) hS0 (Or.inl ⟨by rfl, by (intro X hX; have := cl 2 _ ck X hX; go_simp)⟩) ?_
    simp only [Act.put, List.setIfInBounds_toArray, List.set_cons_zero, List.set_cons_succ]
    refine Ht.takeD 8 (i := 7) ⟨some 50, _, _, _, _, _⟩ (.bool true) rfl (by kernel_rfl) (by kernel_rfl) (by decide) (by kernel_rfl) (by kernel_rfl) (by kernel_rfl) hS0 (Or.inl ⟨by rfl, by (intro X hX; go_simp)⟩) ?_
    simp only [Act.put, List.setIfInBounds_toArray, List.set_cons_zero, List.set_cons_succ]
    refine Ht.takeD 8 (i := 8) ⟨some 51, _, _, _, _, _⟩ (.bool true) rfl (by kernel_rfl) (by kernel_rfl) (by decide) (by kernel_rfl) (by kernel_rfl) (by kernel_rfl) hS0 (Or.inl ⟨by rfl, by (intro X hX; go_simp)⟩) ?_
    simp only [Act.put, List.setIfInBounds_toArray, List.set_cons_zero, List.set_cons_succ]
    refine Ht.takeD 8 (i := 9) ⟨some 52, _, _, _, _, _⟩ (.bool true) rfl (by kernel_rfl) (by kernel_rfl) (by decide) (by kernel_rfl) (by kernel_rfl) (by kernel_rfl) hS0 (Or.inl ⟨by rfl, by (intro X hX; go_simp)⟩) ?_
    simp only [Act.put, List.setIfInBounds_toArray, List.set_cons_zero, List.set_cons_succ]
    refine Ht.takeD 8 (i := 10) ⟨some 53, _, _, _, _, _⟩ (.pointer (some ⟨w2.heap.size, 2, none⟩)) rfl (by kernel_rfl) (by kernel_rfl) (by decide) (by kernel_rfl) (by kernel_rfl) (by kernel_rfl) hS0 (Or.inl ⟨by rfl, by (intro X hX; go_simp)⟩) ?_
    simp only [Act.put, List.setIfInBounds_toArray, List.set_cons_zero, List.set_cons_succ]
    refine Ht.takeD 8 (i := 11) ⟨some 54, _, _, _, _, _⟩ (.pointer (some ⟨w2.heap.size, 2, none⟩)) rfl (by kernel_rfl) (by kernel_rfl) (by decide) (by kernel_rfl) (by kernel_rfl) (by kernel_rfl) hS0 (Or.inl ⟨by rfl, by (intro X hX; go_simp)⟩) ?_
    simp only [Act.put, List.setIfInBounds_toArray, List.set_cons_zero, List.set_cons_succ]
    refine Ht.takeD 8 (i := 12) ⟨some 55, _, _, _, _, _⟩ (.int .i64 q.c.kd) rfl (by kernel_rfl) (by kernel_rfl) (by decide) (by kernel_rfl) (by kernel_rfl) (by kernel_rfl) hS0 (Or.inl ⟨by rfl, by (intro X hX; have := cl 2 _ ck X hX; go_simp)⟩) ?_
    simp only [Act.put, List.setIfInBounds_toArray, List.set_cons_zero, List.set_cons_succ]
    refine Ht.takeD 8 (i := 13) ⟨some 56, _, _, _, _, _⟩ (.bool true) rfl (by kernel_rfl) (by kernel_rfl) (by decide) (by kernel_rfl) (by kernel_rfl) (by kernel_rfl) hS0 (Or.inl ⟨by rfl, by (intro X hX; go_simp)⟩) ?_
    simp only [Act.put, List.setIfInBounds_toArray, List.set_cons_zero, List.set_cons_succ]
    refine Ht.takeD 8 (i := 14) ⟨some 57, _, _, _, _, _⟩ (.bool true) rfl (by kernel_rfl) (by kernel_rfl) (by decide) (by kernel_rfl) (by kernel_rfl) (by kernel_rfl) hS0 (Or.inl ⟨by rfl, by (intro X hX; go_simp)⟩) ?_
    simp only [Act.put, List.setIfInBounds_toArray, List.set_cons_zero, List.set_cons_succ]
    refine Ht.takeD 8 (i := 15) ⟨some 58, _, _, _, _, _⟩ (.bool true) rfl (by kernel_rfl) (by kernel_rfl) (by decide) (by kernel_rfl) (by kernel_rfl) (by kernel_rfl) hS0 (Or.inl ⟨by rfl, by (intro X hX; go_simp)⟩) ?_
    simp only [Act.put, List.setIfInBounds_toArray, List.set_cons_zero, List.set_cons_succ]
    refine Ht.takeD 8 (i := 16) ⟨some 59, _, _, _, _, _⟩ (.agg q.cells) rfl (by kernel_rfl) (by kernel_rfl) (by decide) (by kernel_rfl) (by kernel_rfl) (by kernel_rfl) hS0 (yieldsIf_load_mid (by rfl) 31 _ rfl (w2.heap.size) 0 rfl q.cells.toList _ (fun X hX => range_old HR.out.1 hX) Try.underlying31 rfl info_req) ?_
    simp only [Act.put, List.setIfInBounds_toArray, List.set_cons_zero, List.set_cons_succ]
    refine Ht.takeD 8 (i := 18) ⟨some 61, _, _, _, _, _⟩ (.slice a n c) rfl (by kernel_rfl) (by kernel_rfl) (by decide) (by kernel_rfl) (by kernel_rfl) (by kernel_rfl) hS0 (Or.inl ⟨by rfl, by (intro X hX; go_simp)⟩) ?_
    simp only [Act.put, List.setIfInBounds_toArray, List.set_cons_zero, List.set_cons_succ]
    refine Ht.takeD 8 (i := 19) ⟨some 62, _, _, _, _, _⟩ (.string SB) rfl (by kernel_rfl) (by kernel_rfl) (by decide) (by kernel_rfl) (by kernel_rfl) (by kernel_rfl) hS0 (Or.inl ⟨by rfl, by (intro X hX; have := HC.out X hX; go_simp)⟩) ?_
    simp only [Act.put, List.setIfInBounds_toArray, List.set_cons_zero, List.set_cons_succ]
    refine Ht.step (i := 17) ⟨some 60, _, _, _, _, _⟩ rfl (by kernel_rfl) (by rfl) (fun K hK => ?_)
    refine Ht.enter 9 #[.agg q.cells] (by have hen := fun args w => enters_of (P := Try.prog) Try.func9 (by kernel_rfl) rfl args w; go_simp) (HQ.out _ hS0) ?_
    rintro e v1 ⟨rfl, b1_⟩
    have BB1 := Lib.hid b1_
    have q1 : Below V.heap.size V v1 := hS0.trans (BB1.out.mono hS0.size)
    clear b1_
    refine ⟨_, rfl, hK _ _ (fun hn => q1) (fun hnx => ?_)⟩
    clear hK K hnx
    try simp only [Act.put, List.setIfInBounds_toArray, List.set_cons_zero, List.set_cons_succ]
    refine Ht.takeD 8 (i := 20) ⟨some 63, _, _, _, _, _⟩ (.bool true) rfl (by kernel_rfl) (by kernel_rfl) (by decide) (by kernel_rfl) (by kernel_rfl) (by kernel_rfl) q1 (Or.inl ⟨by rfl, by (intro X hX; have := hSS; go_simp)⟩) ?_
    simp only [Act.put, List.setIfInBounds_toArray, List.set_cons_zero, List.set_cons_succ]
    refine Ht.takeD 8 (i := 21) ⟨some 64, _, _, _, _, _⟩ (.bool true) rfl (by kernel_rfl) (by kernel_rfl) (by decide) (by kernel_rfl) (by kernel_rfl) (by kernel_rfl) q1 (Or.inl ⟨by rfl, by (intro X hX; go_simp)⟩) ?_
    simp only [Act.put, List.setIfInBounds_toArray, List.set_cons_zero, List.set_cons_succ]
    refine Ht.takeD 8 (i := 22) ⟨some 65, _, _, _, _, _⟩ (.bool true) rfl (by kernel_rfl) (by kernel_rfl) (by decide) (by kernel_rfl) (by kernel_rfl) (by kernel_rfl) q1 (Or.inl ⟨by rfl, by (intro X hX; go_simp)⟩) ?_
    simp only [Act.put, List.setIfInBounds_toArray, List.set_cons_zero, List.set_cons_succ]
    refine Ht.takeD 8 (i := 23) ⟨some 66, _, _, _, _, _⟩ (.pointer (some ⟨w2.heap.size, 2, none⟩)) rfl (by kernel_rfl) (by kernel_rfl) (by decide) (by kernel_rfl) (by kernel_rfl) (by kernel_rfl) q1 (Or.inl ⟨by rfl, by (intro X hX; go_simp)⟩) ?_
    simp only [Act.put, List.setIfInBounds_toArray, List.set_cons_zero, List.set_cons_succ]
    refine Ht.takeD 8 (i := 24) ⟨some 67, _, _, _, _, _⟩ (.agg q.c.cells) rfl (by kernel_rfl) (by kernel_rfl) (by decide) (by kernel_rfl) (by kernel_rfl) (by kernel_rfl) q1 (yieldsIf_load_mid (by rfl) 29 _ rfl (w2.heap.size) 2 rfl q.c.cells.toList _ (fun X hX => range_old HR.out.2 hX) Try.underlying29 rfl info_cmd2) ?_
    simp only [Act.put, List.setIfInBounds_toArray, List.set_cons_zero, List.set_cons_succ]
    refine Ht.takeD 8 (i := 25) ⟨some 68, _, _, _, _, _⟩ (.pointer (some ⟨w2.heap.size, 2, none⟩)) rfl (by kernel_rfl) (by kernel_rfl) (by decide) (by kernel_rfl) (by kernel_rfl) (by kernel_rfl) q1 (Or.inl ⟨by rfl, by (intro X hX; go_simp)⟩) ?_
    simp only [Act.put, List.setIfInBounds_toArray, List.set_cons_zero, List.set_cons_succ]
    refine Ht.takeD 8 (i := 26) ⟨some 69, _, _, _, _, _⟩ (.agg q.c.cells) rfl (by kernel_rfl) (by kernel_rfl) (by decide) (by kernel_rfl) (by kernel_rfl) (by kernel_rfl) q1 (yieldsIf_load_mid (by rfl) 29 _ rfl (w2.heap.size) 2 rfl q.c.cells.toList _ (fun X hX => range_old HR.out.2 hX) Try.underlying29 rfl info_cmd2) ?_
    simp only [Act.put, List.setIfInBounds_toArray, List.set_cons_zero, List.set_cons_succ]
    refine Ht.step (i := 27) ⟨some 70, _, _, _, _, _⟩ rfl (by kernel_rfl) (by rfl) (fun K hK => ?_)
    refine Ht.enter 10 #[.agg q.c.cells] (by have hen := fun args w => enters_of (P := Try.prog) Try.func10 (by kernel_rfl) rfl args w; go_simp) (HN.out _ q1) ?_
    rintro e v2 ⟨o, rfl, ho, hdo, b2_⟩
    have BB2 := Lib.hid b2_
    have q2 : Below V.heap.size V v2 := q1.trans (BB2.out.mono q1.size)
    clear b2_
    have HO := Lib.hid (HS.out o ho v2 q2 hdo)
    clear ho hdo
    refine ⟨_, rfl, hK _ _ (fun hn => q2) (fun hnx => ?_)⟩
    clear hK K hnx
    try simp only [Act.put, List.setIfInBounds_toArray, List.set_cons_zero, List.set_cons_succ]
    refine Ht.step (i := 28) ⟨some 71, _, _, _, _, _⟩ rfl (by kernel_rfl) (by rfl) (fun K hK => ?_)
    refine Ht.enter 8 #[.agg q.c.cells, .agg o.cells] (by have hen := fun args w => enters_of (P := Try.prog) Try.func8 (by kernel_rfl) rfl args w; go_simp) (HO.out) ?_
    rintro e v3 ⟨rfl, b3_⟩
    have BB3 := Lib.hid b3_
    have q3 : Below V.heap.size V v3 := q2.trans (BB3.out.mono q2.size)
    clear b3_
    refine ⟨_, rfl, hK _ _ (fun hn => q3) (fun hnx => ?_)⟩
    clear hK K hnx
    try simp only [Act.put, List.setIfInBounds_toArray, List.set_cons_zero, List.set_cons_succ]
    refine Ht.takeD 8 (i := 29) ⟨some 72, _, _, _, _, _⟩ (.bool true) rfl (by kernel_rfl) (by kernel_rfl) (by decide) (by kernel_rfl) (by kernel_rfl) (by kernel_rfl) q3 (Or.inl ⟨by rfl, by (intro X hX; go_simp)⟩) ?_
    simp only [Act.put, List.setIfInBounds_toArray, List.set_cons_zero, List.set_cons_succ]
    refine Ht.step (i := 30) ⟨some 2, _, _, _, _, _⟩ rfl (by kernel_rfl) (by rfl) (fun K hK => ?_)
    go_simp
    refine hK _ _ (fun hn => absurd rfl hn) (fun hnx => ?_)
    clear hK K hnx
    try simp only [Act.put, List.setIfInBounds_toArray, List.set_cons_zero, List.set_cons_succ]
    refine done (by kernel_rfl) ?_
    have Q := Lib.hid (HB.out.2.trans (q3.mono HB.out.2.size))
    clear hS0 q1 q2 q3 cl
    go_wp2_with fail
    go_ret
    exact ⟨rfl, Q.out⟩
  · obtain rfl := hbad he
    have hne : (er != 0) = true := by simpa using he
    have r0 := (cell_at hv0 (i := 0) (v := .int .u64 0) rfl).1
    have r1 := (cell_at hv0 (i := 1) (v := .int .u64 0) rfl).1
    have r2 := (cell_at hv0 (i := 2) (v := .int .i64 0) rfl).1
    have r3 := (cell_at hv0 (i := 3) (v := .string ⟨#[]⟩) rfl).1
    have r4 := (cell_at hv0 (i := 4) (v := .string ⟨#[]⟩) rfl).1
    have r5 := (cell_at hv0 (i := 5) (v := .int .u64 0) rfl).1
    have r6 := (cell_at hv0 (i := 6) (v := .int .i64 0) rfl).1
    have r7 := (cell_at hv0 (i := 7) (v := .string ⟨#[]⟩) rfl).1
    have r8 := (cell_at hv0 (i := 8) (v := .string ⟨#[]⟩) rfl).1
    have r9 := (cell_at hv0 (i := 9) (v := .int .i64 0) rfl).1
    have r10 := (cell_at hv0 (i := 10) (v := .int .i64 0) rfl).1
    have r11 := (cell_at hv0 (i := 11) (v := .slice none 0 0) rfl).1
    have r12 := (cell_at hv0 (i := 12) (v := .int .i64 0) rfl).1
    have r13 := (cell_at hv0 (i := 13) (v := .int .i64 0) rfl).1
    have r14 := (cell_at hv0 (i := 14) (v := .int .i64 0) rfl).1
    have r15 := (cell_at hv0 (i := 15) (v := .int .i64 0) rfl).1
    have r16 := (cell_at hv0 (i := 16) (v := .string ⟨#[]⟩) rfl).1
    have r17 := (cell_at hv0 (i := 17) (v := .int .i64 0) rfl).1
    have HS := Lib.hid (show Calls Try.prog 8 #[.agg zcmd.cells, .agg zcmd.cells] V fun e w' => e = .returned (.bool true) ∧ Below V.heap.size V w' by
      have := same_any zcmd zcmd (w := V) ⟨rfl, fun _ => rfl, .inl rfl⟩ ⟨rfl, fun _ => rfl, .inl rfl⟩ zsp_wf' zsp_wf' zsp_med zsp_med
      rw [smC_yes ⟨rfl, rfl, rfl, rfl, rfl, rfl⟩] at this
      exact this)
    have HLong := Lib.hid (show 900 < n → er = 15 from fun h => hlong (by omega))
    clear hbad hgood hlong HGG hv0 he rC
    go_wp2_with fail
    refine HS.out.mono ?_
    rintro e V2 ⟨rfl, b3⟩
    have Q := Lib.hid (HB.out.2.trans (b3.mono HB.out.2.size))
    clear b3 HS
    by_cases h9 : 900 < n
    · obtain rfl := HLong.out h9
      go_wp2_with fail
      go_ret
      exact ⟨rfl, Q.out⟩
    · go_wp2_with fail
      go_ret
      exact ⟨rfl, Q.out⟩
end Go.Proofs.Ytfidmjpjfigmcaa.Cm
