
/- specs as bytes: the document's -/
import Derived.Test.YtfidmjpjfigmcaaSp3
import Derived.Test.YtfidmjpjfigmcaaHd
import Derived.Shelf.Abstract
namespace Go.Proofs.Ytfidmjpjfigmcaa.Sp
open Go.RowKit Go.Lib Go.Shelf Rf By Ht
set_option linter.unusedVariables false
set_option maxRecDepth 20000
/-- bytes as a text's value -/
abbrev T (l : List UInt8) : Value := .string ⟨l.toArray⟩
theorem t_app (x y : List UInt8) : (⟨x.toArray⟩ : ByteArray) ++ ⟨y.toArray⟩ = ⟨(x ++ y).toArray⟩ := Rf.bytes_app x y
theorem t_size (l : List UInt8) : (⟨l.toArray⟩ : ByteArray).size = l.length := Rf.bytes_size l
theorem join (k l : List UInt8) (hk : k.length ≤ 100000) (hl : l.length ≤ 100000) : ∃ A, A = k ++ l ∧ (⟨k.toArray⟩ : ByteArray) ++ ⟨l.toArray⟩ = ⟨A.toArray⟩ ∧ A.length = k.length + l.length ∧ k.length + l.length ≤ 9223372036854775807 :=
  ⟨_, rfl, t_app k l, List.length_append, by omega⟩
/-- one of middling length -/
def Spc.med (x : Spc) : Prop := (∀ d ∈ x.ds, d.size ≤ 1000) ∧ x.nm.size ≤ 1000 ∧ x.tn.size ≤ 1000 ∧ x.n ≤ 1000 ∧ x.cr.size ≤ 1000 ∧ (rowB x.ds).length ≤ 20000
theorem Spc.few.med {x : Spc} (h : x.few) (hl : x.ds.length = x.n) : x.med := by
  obtain ⟨h1, h2, h3, h4, h5⟩ := h
  have h6 := row_len h1
  exact ⟨fun d hd => by have := h1 d hd; omega, by omega, by omega, by omega, by omega, by omega⟩
theorem text_lenm {s : ByteArray} (h : s.size ≤ 1000) : (textB s).length ≤ 1010 := by
  unfold textB
  have := uvarint_length64 (show U64 s.size by unfold U64; omega)
  have e : s.data.toList.length = s.size := Array.length_toList
  rw [List.length_append, e]
  omega
theorem row_take (l : List ByteArray) (k : Nat) : (rowB (l.take k)).length ≤ (rowB l).length := by
  have := congrArg (fun l => (rowB l).length) (List.take_append_drop k l)
  simp only [rowB, List.flatMap_append, List.length_append] at this ⊢
  omega
set_option maxHeartbeats 8000000 in
theorem Bytes_med (x : Spc) {w : World} (hd : Dp w x.a x.n x.ds) (hw : x.wf) (hf : x.med) :
    Calls Try.prog 22 #[.agg x.cells] w fun e w' => e = .returned (T (specB x)) ∧ Below w.heap.size w w' := by
  have hmix : Try.prog.follows .mixedOrders = true := by kernel_rfl
  obtain ⟨nm, tn, pr, dl, a, n, c, ds, bs, cp, at', ls, cr, ct⟩ := x
  obtain ⟨w2, w3, w5, w6, w7, w8, w10⟩ := hw
  obtain ⟨fd, f0, f1, fn, f9, fr⟩ := hf
  simp only at hd w2 w3 w5 w6 w7 w8 w10 fd f0 f1 fn f9 fr
  obtain ⟨V, hV⟩ : ∃ V, V = w.alloc (.cells #[.string nm, .string tn, .int .i64 pr, .int .i64 dl, .slice a n c, .int .i64 bs, .int .i64 cp, .int .i64 at', .int .i64 ls, .string cr, .int .i64 ct] 27) := ⟨_, rfl⟩
  have hb1 : Below w.heap.size w V := by rw [hV]; exact (Below.refl _ w).alloc (Nat.le_refl _) _
  have hsz : w.heap.size < V.heap.size := by rw [hV]; simp
  have hx0 : V.heap[w.heap.size]? = some (.cells #[.string nm, .string tn, .int .i64 pr, .int .i64 dl, .slice a n c, .int .i64 bs, .int .i64 cp, .int .i64 at', .int .i64 ls, .string cr, .int .i64 ct] 27 (0, 0)) := by rw [hV]; exact (MapKept.heap_alloc w _).1
  have hdV := hd.old hb1
  obtain ⟨L0, hL0⟩ : ∃ L, L = textB nm := ⟨_, rfl⟩
  obtain ⟨L1, hL1⟩ : ∃ L, L = textB tn := ⟨_, rfl⟩
  obtain ⟨L2, hL2⟩ : ∃ L, L = zz pr := ⟨_, rfl⟩
  obtain ⟨L3, hL3⟩ : ∃ L, L = zz dl := ⟨_, rfl⟩
  obtain ⟨L4, hL4⟩ : ∃ L, L = uvarint n := ⟨_, rfl⟩
  have g0 : L0.length ≤ 1010 := by rw [hL0]; exact text_lenm (by omega)
  have g1 : L1.length ≤ 1010 := by rw [hL1]; exact text_lenm (by omega)
  have g2 : L2.length ≤ 10 := by rw [hL2]; exact zz_len w2
  have g3 : L3.length ≤ 10 := by rw [hL3]; exact zz_len w3
  have g4 : L4.length ≤ 10 := by rw [hL4]; exact uvarint_length64 (show n < 18446744073709551616 by omega)
  obtain ⟨A1, hA1, t1, y1, z1⟩ := join L0 L1 (by omega) (by omega)
  obtain ⟨A2, hA2, t2, y2, z2⟩ := join A1 L2 (by omega) (by omega)
  obtain ⟨A3, hA3, t3, y3, z3⟩ := join A2 L3 (by omega) (by omega)
  obtain ⟨A4, hA4, t4, y4, z4⟩ := join A3 L4 (by omega) (by omega)
  have hA4' : A4 = headB ⟨nm, tn, pr, dl, a, n, c, ds, bs, cp, at', ls, cr, ct⟩ := by unfold headB; rw [hA4, hA3, hA2, hA1, hL0, hL1, hL2, hL3, hL4]
  have y4' : A4.length ≤ 3000 := by omega
  clear hA1 hA2 hA3 hA4 y1 y2 y3 y4
  have D0 := fun W => ref_text nm W (by omega)
  have D1 := fun W => ref_text tn W (by omega)
  have D2 := fun W => ref_int pr W w2
  have D3 := fun W => ref_int dl W w3
  have D4 := fun W => ref_num' n W (show n < 18446744073709551616 by omega)
  have E : ∀ (x : ByteArray) (L : List UInt8), True := fun _ _ => trivial
  clear E
  have C0 : ∀ W, Calls Try.prog 43 #[.string nm] W fun e w' => e = .returned (T L0) ∧ Below W.heap.size W w' := by rw [hL0]; exact D0
  have C1 : ∀ W, Calls Try.prog 43 #[.string tn] W fun e w' => e = .returned (T L1) ∧ Below W.heap.size W w' := by rw [hL1]; exact D1
  have C2 : ∀ W, Calls Try.prog 44 #[.int .i64 pr] W fun e w' => e = .returned (T L2) ∧ Below W.heap.size W w' := by rw [hL2]; exact D2
  have C3 : ∀ W, Calls Try.prog 44 #[.int .i64 dl] W fun e w' => e = .returned (T L3) ∧ Below W.heap.size W w' := by rw [hL3]; exact D3
  have C4 : ∀ W, Calls Try.prog 23 #[.int .u64 n] W fun e w' => e = .returned (T L4) ∧ Below W.heap.size W w' := by rw [hL4]; exact D4
  obtain ⟨⟨l0, l1, l2, l3, l4, l5, l6, l7, l8, l9, l10⟩, _⟩ := eleven hx0
  have cl : ∀ (i : Nat) (v : Value), V.cell? ⟨w.heap.size, i, none⟩ = some v → ∀ X, Below V.heap.size V X → X.cell? ⟨w.heap.size, i, none⟩ = some v := fun i v h X hX => (hX.cell (p := ⟨w.heap.size, i, none⟩) hsz).trans h
  have HC := Lib.hid (And.intro C0 (And.intro C1 (And.intro C2 (And.intro C3 C4))))
  have HG := Lib.hid (And.intro hb1 (And.intro hdV (And.intro fd (And.intro fr (And.intro hA4' y4')))))
  clear D0 D1 D2 D3 D4 C0 C1 C2 C3 C4 hb1 hdV hd fd fr hA4' y4' g0 g1 g2 g3 g4 hL0 hL1 hL2 hL3 hL4 hx0 w2 w3 f0 f1
  have hwn : IntKind.u64.wrap (n : Int) = n := by rw [IntKind.wrap_u64]; omega
  unfold Spc.cells
  simp only
  go_enter Try.func22, Try.ntmps22
  go_wp2_with fail
  rw [← hV]
  have HV := Lib.hid hV
  clear hV
  refine begin' 21 (fun ZZ => Below V.heap.size V ZZ) hmix ((Below.refl _ V).drew) (fun hS0 => ?_)
  refine Ht.takeD 8 (i := 0) ⟨some 6, _, _, _, _, _⟩ (.pointer (some ⟨w.heap.size, 0, none⟩)) rfl (by kernel_rfl) (by kernel_rfl) (by decide) (by kernel_rfl) (by kernel_rfl) (by kernel_rfl) hS0 (Or.inl ⟨by rfl, by (intro X hX; go_simp)⟩) ?_
  simp only [Act.put, List.setIfInBounds_toArray, List.set_cons_zero, List.set_cons_succ]
  refine Ht.takeD 8 (i := 1) ⟨some 7, _, _, _, _, _⟩ (.string nm) rfl (by kernel_rfl) (by kernel_rfl) (by decide) (by kernel_rfl) (by kernel_rfl) (by kernel_rfl) hS0 (Or.inl ⟨by rfl, by (intro X hX; have := cl 0 _ l0 X hX; go_simp)⟩) ?_
  simp only [Act.put, List.setIfInBounds_toArray, List.set_cons_zero, List.set_cons_succ]
  refine Ht.takeD 8 (i := 3) ⟨some 9, _, _, _, _, _⟩ (.pointer (some ⟨w.heap.size, 1, none⟩)) rfl (by kernel_rfl) (by kernel_rfl) (by decide) (by kernel_rfl) (by kernel_rfl) (by kernel_rfl) hS0 (Or.inl ⟨by rfl, by (intro X hX; go_simp)⟩) ?_
  simp only [Act.put, List.setIfInBounds_toArray, List.set_cons_zero, List.set_cons_succ]
  refine Ht.takeD 8 (i := 4) ⟨some 10, _, _, _, _, _⟩ (.string tn) rfl (by kernel_rfl) (by kernel_rfl) (by decide) (by kernel_rfl) (by kernel_rfl) (by kernel_rfl) hS0 (Or.inl ⟨by rfl, by (intro X hX; have := cl 1 _ l1 X hX; go_simp)⟩) ?_
  simp only [Act.put, List.setIfInBounds_toArray, List.set_cons_zero, List.set_cons_succ]
  refine Ht.takeD 8 (i := 7) ⟨some 13, _, _, _, _, _⟩ (.pointer (some ⟨w.heap.size, 2, none⟩)) rfl (by kernel_rfl) (by kernel_rfl) (by decide) (by kernel_rfl) (by kernel_rfl) (by kernel_rfl) hS0 (Or.inl ⟨by rfl, by (intro X hX; go_simp)⟩) ?_
  simp only [Act.put, List.setIfInBounds_toArray, List.set_cons_zero, List.set_cons_succ]
  refine Ht.takeD 8 (i := 8) ⟨some 14, _, _, _, _, _⟩ (.int .i64 pr) rfl (by kernel_rfl) (by kernel_rfl) (by decide) (by kernel_rfl) (by kernel_rfl) (by kernel_rfl) hS0 (Or.inl ⟨by rfl, by (intro X hX; have := cl 2 _ l2 X hX; go_simp)⟩) ?_
  simp only [Act.put, List.setIfInBounds_toArray, List.set_cons_zero, List.set_cons_succ]
  refine Ht.takeD 8 (i := 11) ⟨some 17, _, _, _, _, _⟩ (.pointer (some ⟨w.heap.size, 3, none⟩)) rfl (by kernel_rfl) (by kernel_rfl) (by decide) (by kernel_rfl) (by kernel_rfl) (by kernel_rfl) hS0 (Or.inl ⟨by rfl, by (intro X hX; go_simp)⟩) ?_
  simp only [Act.put, List.setIfInBounds_toArray, List.set_cons_zero, List.set_cons_succ]
  refine Ht.takeD 8 (i := 12) ⟨some 18, _, _, _, _, _⟩ (.int .i64 dl) rfl (by kernel_rfl) (by kernel_rfl) (by decide) (by kernel_rfl) (by kernel_rfl) (by kernel_rfl) hS0 (Or.inl ⟨by rfl, by (intro X hX; have := cl 3 _ l3 X hX; go_simp)⟩) ?_
  simp only [Act.put, List.setIfInBounds_toArray, List.set_cons_zero, List.set_cons_succ]
  refine Ht.takeD 8 (i := 15) ⟨some 21, _, _, _, _, _⟩ (.pointer (some ⟨w.heap.size, 4, none⟩)) rfl (by kernel_rfl) (by kernel_rfl) (by decide) (by kernel_rfl) (by kernel_rfl) (by kernel_rfl) hS0 (Or.inl ⟨by rfl, by (intro X hX; go_simp)⟩) ?_
  simp only [Act.put, List.setIfInBounds_toArray, List.set_cons_zero, List.set_cons_succ]
  refine Ht.takeD 8 (i := 16) ⟨some 22, _, _, _, _, _⟩ (.slice a n c) rfl (by kernel_rfl) (by kernel_rfl) (by decide) (by kernel_rfl) (by kernel_rfl) (by kernel_rfl) hS0 (Or.inl ⟨by rfl, by (intro X hX; have := cl 4 _ l4 X hX; go_simp)⟩) ?_
  simp only [Act.put, List.setIfInBounds_toArray, List.set_cons_zero, List.set_cons_succ]
  refine Ht.takeD 8 (i := 17) ⟨some 23, _, _, _, _, _⟩ (.int .i64 n) rfl (by kernel_rfl) (by kernel_rfl) (by decide) (by kernel_rfl) (by kernel_rfl) (by kernel_rfl) hS0 (Or.inl ⟨by rfl, by (intro X hX; go_simp)⟩) ?_
  simp only [Act.put, List.setIfInBounds_toArray, List.set_cons_zero, List.set_cons_succ]
  refine Ht.takeD 8 (i := 18) ⟨some 24, _, _, _, _, _⟩ (.int .u64 n) rfl (by kernel_rfl) (by kernel_rfl) (by decide) (by kernel_rfl) (by kernel_rfl) (by kernel_rfl) hS0 (Or.inl ⟨by rfl, by (intro X hX; go_simp)⟩) ?_
  simp only [Act.put, List.setIfInBounds_toArray, List.set_cons_zero, List.set_cons_succ]
  refine Ht.step (i := 2) ⟨some 8, _, _, _, _, _⟩ rfl (by kernel_rfl) (by rfl) (fun K hK => ?_)
  refine Ht.enter 43 #[.string nm] (by have hen := fun args w => enters_of (P := Try.prog) Try.func43 (by kernel_rfl) rfl args w; go_simp) (HC.out.1 _) ?_
  rintro e w0 ⟨rfl, b0⟩
  have B0 := Lib.hid b0
  have q0 : Below V.heap.size V w0 := Below.trans ((Below.refl _ V).drew) (B0.out.mono (Nat.le_refl _))
  clear b0
  refine ⟨_, rfl, hK _ _ (fun hn => q0) (fun hnx => ?_)⟩
  clear hK K hnx
  try simp only [Act.put, List.setIfInBounds_toArray, List.set_cons_zero, List.set_cons_succ]
  refine Ht.step (i := 5) ⟨some 11, _, _, _, _, _⟩ rfl (by kernel_rfl) (by rfl) (fun K hK => ?_)
  refine Ht.enter 43 #[.string tn] (by have hen := fun args w => enters_of (P := Try.prog) Try.func43 (by kernel_rfl) rfl args w; go_simp) (HC.out.2.1 _) ?_
  rintro e w1 ⟨rfl, b1⟩
  have B1 := Lib.hid b1
  have q1 : Below V.heap.size V w1 := q0.trans (B1.out.mono q0.size)
  clear b1
  refine ⟨_, rfl, hK _ _ (fun hn => q1) (fun hnx => ?_)⟩
  clear hK K hnx
  try simp only [Act.put, List.setIfInBounds_toArray, List.set_cons_zero, List.set_cons_succ]
  refine Ht.takeD 8 (i := 6) ⟨some 12, _, _, _, _, _⟩ (T A1) rfl (by kernel_rfl) (by kernel_rfl) (by decide) (by kernel_rfl) (by kernel_rfl) (by kernel_rfl) q1 (Or.inl ⟨by rfl, by (intro X hX; have := And.intro t1 z1; go_simp)⟩) ?_
  simp only [Act.put, List.setIfInBounds_toArray, List.set_cons_zero, List.set_cons_succ]
  refine Ht.step (i := 9) ⟨some 15, _, _, _, _, _⟩ rfl (by kernel_rfl) (by rfl) (fun K hK => ?_)
  refine Ht.enter 44 #[.int .i64 pr] (by have hen := fun args w => enters_of (P := Try.prog) Try.func44 (by kernel_rfl) rfl args w; go_simp) (HC.out.2.2.1 _) ?_
  rintro e w2 ⟨rfl, b2⟩
  have B2 := Lib.hid b2
  have q2 : Below V.heap.size V w2 := q1.trans (B2.out.mono q1.size)
  clear b2
  refine ⟨_, rfl, hK _ _ (fun hn => q2) (fun hnx => ?_)⟩
  clear hK K hnx
  try simp only [Act.put, List.setIfInBounds_toArray, List.set_cons_zero, List.set_cons_succ]
  refine Ht.takeD 8 (i := 10) ⟨some 16, _, _, _, _, _⟩ (T A2) rfl (by kernel_rfl) (by kernel_rfl) (by decide) (by kernel_rfl) (by kernel_rfl) (by kernel_rfl) q2 (Or.inl ⟨by rfl, by (intro X hX; have := And.intro t2 z2; go_simp)⟩) ?_
  simp only [Act.put, List.setIfInBounds_toArray, List.set_cons_zero, List.set_cons_succ]
  refine Ht.step (i := 13) ⟨some 19, _, _, _, _, _⟩ rfl (by kernel_rfl) (by rfl) (fun K hK => ?_)
  refine Ht.enter 44 #[.int .i64 dl] (by have hen := fun args w => enters_of (P := Try.prog) Try.func44 (by kernel_rfl) rfl args w; go_simp) (HC.out.2.2.2.1 _) ?_
  rintro e w3 ⟨rfl, b3⟩
  have B3 := Lib.hid b3
  have q3 : Below V.heap.size V w3 := q2.trans (B3.out.mono q2.size)
  clear b3
  refine ⟨_, rfl, hK _ _ (fun hn => q3) (fun hnx => ?_)⟩
  clear hK K hnx
  try simp only [Act.put, List.setIfInBounds_toArray, List.set_cons_zero, List.set_cons_succ]
  refine Ht.takeD 8 (i := 14) ⟨some 20, _, _, _, _, _⟩ (T A3) rfl (by kernel_rfl) (by kernel_rfl) (by decide) (by kernel_rfl) (by kernel_rfl) (by kernel_rfl) q3 (Or.inl ⟨by rfl, by (intro X hX; have := And.intro t3 z3; go_simp)⟩) ?_
  simp only [Act.put, List.setIfInBounds_toArray, List.set_cons_zero, List.set_cons_succ]
  refine Ht.step (i := 19) ⟨some 25, _, _, _, _, _⟩ rfl (by kernel_rfl) (by rfl) (fun K hK => ?_)
  refine Ht.enter 23 #[.int .u64 n] (by have hen := fun args w => enters_of (P := Try.prog) Try.func23 (by kernel_rfl) rfl args w; go_simp) (HC.out.2.2.2.2 _) ?_
  rintro e w4 ⟨rfl, b4⟩
  have B4 := Lib.hid b4
  have q4 : Below V.heap.size V w4 := q3.trans (B4.out.mono q3.size)
  clear b4
  refine ⟨_, rfl, hK _ _ (fun hn => q4) (fun hnx => ?_)⟩
  clear hK K hnx
  try simp only [Act.put, List.setIfInBounds_toArray, List.set_cons_zero, List.set_cons_succ]
  refine Ht.takeD 8 (i := 20) ⟨some 26, _, _, _, _, _⟩ (T A4) rfl (by kernel_rfl) (by kernel_rfl) (by decide) (by kernel_rfl) (by kernel_rfl) (by kernel_rfl) q4 (Or.inl ⟨by rfl, by (intro X hX; have := And.intro t4 z4; go_simp)⟩) ?_
  simp only [Act.put, List.setIfInBounds_toArray, List.set_cons_zero, List.set_cons_succ]
  refine Ht.step (i := 21) ⟨some 3, _, _, _, _, _⟩ rfl (by kernel_rfl) (by rfl) (fun K hK => ?_)
  go_simp
  refine hK _ _ (fun hn => absurd rfl hn) (fun hnx => ?_)
  clear hK K hnx
  try simp only [Act.put, List.setIfInBounds_toArray, List.set_cons_zero, List.set_cons_succ]
  refine done (by kernel_rfl) ?_
  have HA := Lib.hid (And.intro q4 (And.intro w5 (And.intro w6 (And.intro w7 (And.intro w8 (And.intro w10 f9))))))
  clear t1 t2 t3 t4 z1 z2 z3 z4 q0 q1 q2 q3 B0 B1 B2 B3 B4 HC w5 w6 w7 w8 w10 f9
  have l4' := cl 4 _ l4 _ q4
  clear q4
  go_wp2_with fail
  clear l4'
  go_loopw [30, 3] (fun s30 s3 wr => ∃ k : Nat, s30 = .int .i64 k ∧ s3 = T (A4 ++ rowB (ds.take k)) ∧ k ≤ n ∧ Below V.heap.size V wr) (fun s30 _ _ => n - (RowKit.intOf s30).toNat)
  case atStart => exact ⟨0, rfl, by simp [rowB], Nat.zero_le _, HA.out.1⟩
  case round =>
    obtain ⟨k, rfl, rfl, hk, hbw⟩ := hrel
    have fd := HG.out.2.2.1
    have hdl : ds.length = n := HG.out.2.1.1
    have y4 : A4.length ≤ 3000 := HG.out.2.2.2.2.2
    have hrl : (rowB (ds.take k)).length ≤ 20000 := Nat.le_trans (row_take ds k) HG.out.2.2.2.1
    by_cases hlt : k < n
    · have hkl : k < ds.length := by omega
      rcases HG.out.2.1.2.2 with h0 | ⟨b, o, rfl, hat⟩
      · omega
      have hc := (hbw.cell (World.block_lt_of_cell? V _ (hat k hkl))).trans (hat k hkl)
      obtain ⟨d, hd⟩ : ∃ d, d = ds[k] := ⟨_, rfl⟩
      have hd6 : d.size ≤ 1000 := by rw [hd]; exact fd _ (List.getElem_mem hkl)
      have hrs := row_succ hkl
      rw [← hd] at hc hrs
      obtain ⟨A, hA, t1, y1, z1⟩ := join (A4 ++ rowB (ds.take k)) (textB d) (by rw [List.length_append]; omega) (by have := text_lenm (s := d) (by omega); omega)
      rw [List.append_assoc, ← hrs] at hA
      obtain ⟨K, hK⟩ : ∃ K, K = A4 ++ rowB (ds.take k) := ⟨_, rfl⟩
      rw [← hK] at t1 z1
      obtain ⟨M, hM⟩ : ∃ M, M = textB d := ⟨_, rfl⟩
      rw [← hM] at t1 z1
      have hR := fun W => ref_text d W (by omega)
      have HR := Lib.hid (show ∀ W, Calls Try.prog 43 #[.string d] W fun e w' => e = .returned (T M) ∧ Below W.heap.size W w' from by rw [hM]; exact hR)
      have H := Lib.hid (And.intro hA hbw)
      rw [← hK]
      clear hA hbw hR hM hK hrs hd hat fd y1
      go_wp2_with fail
      refine (HR.out _).mono ?_
      rintro e w5 ⟨rfl, b5⟩
      have B5 := Lib.hid b5
      clear b5
      go_wp2_with fail
      go_roundw
      case rel => exact ⟨k + 1, rfl, by rw [← H.out.1], hlt, H.out.2.trans (B5.out.mono H.out.2.size)⟩
      case measure => simp only [RowKit.intOf]; omega
    · have hkn : k = n := by omega
      have e0 : ds.take k = ds := List.take_of_length_le (by omega)
      rw [e0] at hrl ⊢
      obtain ⟨K, hK⟩ : ∃ K, K = A4 ++ rowB ds := ⟨_, rfl⟩
      have yK : K.length ≤ 30000 := by rw [hK, List.length_append]; omega
      rw [← hK]
      obtain ⟨_, w5, w6, w7, w8, w10, f9⟩ := HA.out
      obtain ⟨L5, hL5⟩ : ∃ L, L = zz bs := ⟨_, rfl⟩
      obtain ⟨L6, hL6⟩ : ∃ L, L = zz cp := ⟨_, rfl⟩
      obtain ⟨L7, hL7⟩ : ∃ L, L = zz at' := ⟨_, rfl⟩
      obtain ⟨L8, hL8⟩ : ∃ L, L = zz ls := ⟨_, rfl⟩
      obtain ⟨L9, hL9⟩ : ∃ L, L = textB cr := ⟨_, rfl⟩
      obtain ⟨L10, hL10⟩ : ∃ L, L = zz ct := ⟨_, rfl⟩
      have g5 : L5.length ≤ 10 := by rw [hL5]; exact zz_len w5
      have g6 : L6.length ≤ 10 := by rw [hL6]; exact zz_len w6
      have g7 : L7.length ≤ 10 := by rw [hL7]; exact zz_len w7
      have g8 : L8.length ≤ 10 := by rw [hL8]; exact zz_len w8
      have g9 : L9.length ≤ 1010 := by rw [hL9]; exact text_lenm f9
      have g10 : L10.length ≤ 10 := by rw [hL10]; exact zz_len w10
      obtain ⟨D1, hD1, t1, y1, z1⟩ := join K L5 (by omega) (by omega)
      obtain ⟨D2, hD2, t2, y2, z2⟩ := join D1 L6 (by omega) (by omega)
      obtain ⟨D3, hD3, t3, y3, z3⟩ := join D2 L7 (by omega) (by omega)
      obtain ⟨D4, hD4, t4, y4, z4⟩ := join D3 L8 (by omega) (by omega)
      obtain ⟨D5, hD5, t5, y5, z5⟩ := join D4 L9 (by omega) (by omega)
      obtain ⟨D6, hD6, t6, y6, z6⟩ := join D5 L10 (by omega) (by omega)
      have hfin : D6 = specB ⟨nm, tn, pr, dl, a, n, c, ds, bs, cp, at', ls, cr, ct⟩ := by
        unfold specB tailB
        rw [← HG.out.2.2.2.2.1]
        show D6 = A4 ++ rowB ds ++ (zz bs ++ (zz cp ++ (zz at' ++ (zz ls ++ (textB cr ++ zz ct)))))
        rw [hD6, hD5, hD4, hD3, hD2, hD1, hK, hL5, hL6, hL7, hL8, hL9, hL10]
        simp only [List.append_assoc]
      have C5 : ∀ W, Calls Try.prog 44 #[.int .i64 bs] W fun e w' => e = .returned (T L5) ∧ Below W.heap.size W w' := by rw [hL5]; exact fun W => ref_int bs W w5
      have C6 : ∀ W, Calls Try.prog 44 #[.int .i64 cp] W fun e w' => e = .returned (T L6) ∧ Below W.heap.size W w' := by rw [hL6]; exact fun W => ref_int cp W w6
      have C7 : ∀ W, Calls Try.prog 44 #[.int .i64 at'] W fun e w' => e = .returned (T L7) ∧ Below W.heap.size W w' := by rw [hL7]; exact fun W => ref_int at' W w7
      have C8 : ∀ W, Calls Try.prog 44 #[.int .i64 ls] W fun e w' => e = .returned (T L8) ∧ Below W.heap.size W w' := by rw [hL8]; exact fun W => ref_int ls W w8
      have C9 : ∀ W, Calls Try.prog 43 #[.string cr] W fun e w' => e = .returned (T L9) ∧ Below W.heap.size W w' := by rw [hL9]; exact fun W => ref_text cr W (by omega)
      have C10 : ∀ W, Calls Try.prog 44 #[.int .i64 ct] W fun e w' => e = .returned (T L10) ∧ Below W.heap.size W w' := by rw [hL10]; exact fun W => ref_int ct W w10
      have HC := Lib.hid (And.intro C5 (And.intro C6 (And.intro C7 (And.intro C8 (And.intro C9 C10)))))
      have HF := Lib.hid (And.intro hfin hbw)
      have sw : w.heap.size < wr.heap.size := Nat.lt_of_lt_of_le hsz hbw.size
      have ce : ∀ (i : Nat) (v : Value), V.cell? ⟨w.heap.size, i, none⟩ = some v → ∀ X, Below wr.heap.size wr X → X.cell? ⟨w.heap.size, i, none⟩ = some v := fun i v h X hX => (hX.cell (p := ⟨w.heap.size, i, none⟩) sw).trans ((hbw.cell (p := ⟨w.heap.size, i, none⟩) hsz).trans h)
      clear C5 C6 C7 C8 C9 C10 hfin hD1 hD2 hD3 hD4 hD5 hD6 y1 y2 y3 y4 y5 y6 g5 g6 g7 g8 g9 g10 hL5 hL6 hL7 hL8 hL9 hL10 w5 w6 w7 w8 w10 f9 hK yK e0 hrl fd hdl hbw cl sw hsz
      go_wp2_with fail
      refine begin' 25 (fun ZZ => Below wr.heap.size wr ZZ) hmix ((Below.refl _ wr).drew) (fun hS0 => ?_)
      refine Ht.takeD 8 (i := 0) ⟨some 39, _, _, _, _, _⟩ (T K) rfl (by kernel_rfl) (by kernel_rfl) (by decide) (by kernel_rfl) (by kernel_rfl) (by kernel_rfl) hS0 (Or.inl ⟨by rfl, by (intro X hX; go_simp)⟩) ?_
      simp only [Act.put, List.setIfInBounds_toArray, List.set_cons_zero, List.set_cons_succ]
      refine Ht.takeD 8 (i := 1) ⟨some 40, _, _, _, _, _⟩ (.pointer (some ⟨w.heap.size, 5, none⟩)) rfl (by kernel_rfl) (by kernel_rfl) (by decide) (by kernel_rfl) (by kernel_rfl) (by kernel_rfl) hS0 (Or.inl ⟨by rfl, by (intro X hX; go_simp)⟩) ?_
      simp only [Act.put, List.setIfInBounds_toArray, List.set_cons_zero, List.set_cons_succ]
      refine Ht.takeD 8 (i := 2) ⟨some 41, _, _, _, _, _⟩ (.int .i64 bs) rfl (by kernel_rfl) (by kernel_rfl) (by decide) (by kernel_rfl) (by kernel_rfl) (by kernel_rfl) hS0 (Or.inl ⟨by rfl, by (intro X hX; have := ce 5 _ l5 X hX; go_simp)⟩) ?_
      simp only [Act.put, List.setIfInBounds_toArray, List.set_cons_zero, List.set_cons_succ]
      refine Ht.takeD 8 (i := 5) ⟨some 44, _, _, _, _, _⟩ (.pointer (some ⟨w.heap.size, 6, none⟩)) rfl (by kernel_rfl) (by kernel_rfl) (by decide) (by kernel_rfl) (by kernel_rfl) (by kernel_rfl) hS0 (Or.inl ⟨by rfl, by (intro X hX; go_simp)⟩) ?_
      simp only [Act.put, List.setIfInBounds_toArray, List.set_cons_zero, List.set_cons_succ]
      refine Ht.takeD 8 (i := 6) ⟨some 45, _, _, _, _, _⟩ (.int .i64 cp) rfl (by kernel_rfl) (by kernel_rfl) (by decide) (by kernel_rfl) (by kernel_rfl) (by kernel_rfl) hS0 (Or.inl ⟨by rfl, by (intro X hX; have := ce 6 _ l6 X hX; go_simp)⟩) ?_
      simp only [Act.put, List.setIfInBounds_toArray, List.set_cons_zero, List.set_cons_succ]
      refine Ht.takeD 8 (i := 9) ⟨some 48, _, _, _, _, _⟩ (.pointer (some ⟨w.heap.size, 7, none⟩)) rfl (by kernel_rfl) (by kernel_rfl) (by decide) (by kernel_rfl) (by kernel_rfl) (by kernel_rfl) hS0 (Or.inl ⟨by rfl, by (intro X hX; go_simp)⟩) ?_
      simp only [Act.put, List.setIfInBounds_toArray, List.set_cons_zero, List.set_cons_succ]
      refine Ht.takeD 8 (i := 10) ⟨some 49, _, _, _, _, _⟩ (.int .i64 at') rfl (by kernel_rfl) (by kernel_rfl) (by decide) (by kernel_rfl) (by kernel_rfl) (by kernel_rfl) hS0 (Or.inl ⟨by rfl, by (intro X hX; have := ce 7 _ l7 X hX; go_simp)⟩) ?_
      simp only [Act.put, List.setIfInBounds_toArray, List.set_cons_zero, List.set_cons_succ]
      refine Ht.takeD 8 (i := 13) ⟨some 52, _, _, _, _, _⟩ (.pointer (some ⟨w.heap.size, 8, none⟩)) rfl (by kernel_rfl) (by kernel_rfl) (by decide) (by kernel_rfl) (by kernel_rfl) (by kernel_rfl) hS0 (Or.inl ⟨by rfl, by (intro X hX; go_simp)⟩) ?_
      simp only [Act.put, List.setIfInBounds_toArray, List.set_cons_zero, List.set_cons_succ]
      refine Ht.takeD 8 (i := 14) ⟨some 53, _, _, _, _, _⟩ (.int .i64 ls) rfl (by kernel_rfl) (by kernel_rfl) (by decide) (by kernel_rfl) (by kernel_rfl) (by kernel_rfl) hS0 (Or.inl ⟨by rfl, by (intro X hX; have := ce 8 _ l8 X hX; go_simp)⟩) ?_
      simp only [Act.put, List.setIfInBounds_toArray, List.set_cons_zero, List.set_cons_succ]
      refine Ht.takeD 8 (i := 17) ⟨some 56, _, _, _, _, _⟩ (.pointer (some ⟨w.heap.size, 9, none⟩)) rfl (by kernel_rfl) (by kernel_rfl) (by decide) (by kernel_rfl) (by kernel_rfl) (by kernel_rfl) hS0 (Or.inl ⟨by rfl, by (intro X hX; go_simp)⟩) ?_
      simp only [Act.put, List.setIfInBounds_toArray, List.set_cons_zero, List.set_cons_succ]
      refine Ht.takeD 8 (i := 18) ⟨some 57, _, _, _, _, _⟩ (.string cr) rfl (by kernel_rfl) (by kernel_rfl) (by decide) (by kernel_rfl) (by kernel_rfl) (by kernel_rfl) hS0 (Or.inl ⟨by rfl, by (intro X hX; have := ce 9 _ l9 X hX; go_simp)⟩) ?_
      simp only [Act.put, List.setIfInBounds_toArray, List.set_cons_zero, List.set_cons_succ]
      refine Ht.takeD 8 (i := 21) ⟨some 60, _, _, _, _, _⟩ (.pointer (some ⟨w.heap.size, 10, none⟩)) rfl (by kernel_rfl) (by kernel_rfl) (by decide) (by kernel_rfl) (by kernel_rfl) (by kernel_rfl) hS0 (Or.inl ⟨by rfl, by (intro X hX; go_simp)⟩) ?_
      simp only [Act.put, List.setIfInBounds_toArray, List.set_cons_zero, List.set_cons_succ]
      refine Ht.takeD 8 (i := 22) ⟨some 61, _, _, _, _, _⟩ (.int .i64 ct) rfl (by kernel_rfl) (by kernel_rfl) (by decide) (by kernel_rfl) (by kernel_rfl) (by kernel_rfl) hS0 (Or.inl ⟨by rfl, by (intro X hX; have := ce 10 _ l10 X hX; go_simp)⟩) ?_
      simp only [Act.put, List.setIfInBounds_toArray, List.set_cons_zero, List.set_cons_succ]
      refine Ht.step (i := 3) ⟨some 42, _, _, _, _, _⟩ rfl (by kernel_rfl) (by rfl) (fun K hK => ?_)
      refine Ht.enter 44 #[.int .i64 bs] (by have hen := fun args w => enters_of (P := Try.prog) Try.func44 (by kernel_rfl) rfl args w; go_simp) (HC.out.1 _) ?_
      rintro e v5 ⟨rfl, b5⟩
      have B5 := Lib.hid b5
      have q5 : Below wr.heap.size wr v5 := Below.trans ((Below.refl _ wr).drew) (B5.out.mono (Nat.le_refl _))
      clear b5
      refine ⟨_, rfl, hK _ _ (fun hn => q5) (fun hnx => ?_)⟩
      clear hK K hnx
      try simp only [Act.put, List.setIfInBounds_toArray, List.set_cons_zero, List.set_cons_succ]
      refine Ht.takeD 8 (i := 4) ⟨some 43, _, _, _, _, _⟩ (T D1) rfl (by kernel_rfl) (by kernel_rfl) (by decide) (by kernel_rfl) (by kernel_rfl) (by kernel_rfl) q5 (Or.inl ⟨by rfl, by (intro X hX; have := And.intro t1 z1; go_simp)⟩) ?_
      simp only [Act.put, List.setIfInBounds_toArray, List.set_cons_zero, List.set_cons_succ]
      refine Ht.step (i := 7) ⟨some 46, _, _, _, _, _⟩ rfl (by kernel_rfl) (by rfl) (fun K hK => ?_)
      refine Ht.enter 44 #[.int .i64 cp] (by have hen := fun args w => enters_of (P := Try.prog) Try.func44 (by kernel_rfl) rfl args w; go_simp) (HC.out.2.1 _) ?_
      rintro e v6 ⟨rfl, b6⟩
      have B6 := Lib.hid b6
      have q6 : Below wr.heap.size wr v6 := q5.trans (B6.out.mono q5.size)
      clear b6
      refine ⟨_, rfl, hK _ _ (fun hn => q6) (fun hnx => ?_)⟩
      clear hK K hnx
      try simp only [Act.put, List.setIfInBounds_toArray, List.set_cons_zero, List.set_cons_succ]
      refine Ht.takeD 8 (i := 8) ⟨some 47, _, _, _, _, _⟩ (T D2) rfl (by kernel_rfl) (by kernel_rfl) (by decide) (by kernel_rfl) (by kernel_rfl) (by kernel_rfl) q6 (Or.inl ⟨by rfl, by (intro X hX; have := And.intro t2 z2; go_simp)⟩) ?_
      simp only [Act.put, List.setIfInBounds_toArray, List.set_cons_zero, List.set_cons_succ]
      refine Ht.step (i := 11) ⟨some 50, _, _, _, _, _⟩ rfl (by kernel_rfl) (by rfl) (fun K hK => ?_)
      refine Ht.enter 44 #[.int .i64 at'] (by have hen := fun args w => enters_of (P := Try.prog) Try.func44 (by kernel_rfl) rfl args w; go_simp) (HC.out.2.2.1 _) ?_
      rintro e v7 ⟨rfl, b7⟩
      have B7 := Lib.hid b7
      have q7 : Below wr.heap.size wr v7 := q6.trans (B7.out.mono q6.size)
      clear b7
      refine ⟨_, rfl, hK _ _ (fun hn => q7) (fun hnx => ?_)⟩
      clear hK K hnx
      try simp only [Act.put, List.setIfInBounds_toArray, List.set_cons_zero, List.set_cons_succ]
      refine Ht.takeD 8 (i := 12) ⟨some 51, _, _, _, _, _⟩ (T D3) rfl (by kernel_rfl) (by kernel_rfl) (by decide) (by kernel_rfl) (by kernel_rfl) (by kernel_rfl) q7 (Or.inl ⟨by rfl, by (intro X hX; have := And.intro t3 z3; go_simp)⟩) ?_
      simp only [Act.put, List.setIfInBounds_toArray, List.set_cons_zero, List.set_cons_succ]
      refine Ht.step (i := 15) ⟨some 54, _, _, _, _, _⟩ rfl (by kernel_rfl) (by rfl) (fun K hK => ?_)
      refine Ht.enter 44 #[.int .i64 ls] (by have hen := fun args w => enters_of (P := Try.prog) Try.func44 (by kernel_rfl) rfl args w; go_simp) (HC.out.2.2.2.1 _) ?_
      rintro e v8 ⟨rfl, b8⟩
      have B8 := Lib.hid b8
      have q8 : Below wr.heap.size wr v8 := q7.trans (B8.out.mono q7.size)
      clear b8
      refine ⟨_, rfl, hK _ _ (fun hn => q8) (fun hnx => ?_)⟩
      clear hK K hnx
      try simp only [Act.put, List.setIfInBounds_toArray, List.set_cons_zero, List.set_cons_succ]
      refine Ht.takeD 8 (i := 16) ⟨some 55, _, _, _, _, _⟩ (T D4) rfl (by kernel_rfl) (by kernel_rfl) (by decide) (by kernel_rfl) (by kernel_rfl) (by kernel_rfl) q8 (Or.inl ⟨by rfl, by (intro X hX; have := And.intro t4 z4; go_simp)⟩) ?_
      simp only [Act.put, List.setIfInBounds_toArray, List.set_cons_zero, List.set_cons_succ]
      refine Ht.step (i := 19) ⟨some 58, _, _, _, _, _⟩ rfl (by kernel_rfl) (by rfl) (fun K hK => ?_)
      refine Ht.enter 43 #[.string cr] (by have hen := fun args w => enters_of (P := Try.prog) Try.func43 (by kernel_rfl) rfl args w; go_simp) (HC.out.2.2.2.2.1 _) ?_
      rintro e v9 ⟨rfl, b9⟩
      have B9 := Lib.hid b9
      have q9 : Below wr.heap.size wr v9 := q8.trans (B9.out.mono q8.size)
      clear b9
      refine ⟨_, rfl, hK _ _ (fun hn => q9) (fun hnx => ?_)⟩
      clear hK K hnx
      try simp only [Act.put, List.setIfInBounds_toArray, List.set_cons_zero, List.set_cons_succ]
      refine Ht.takeD 8 (i := 20) ⟨some 59, _, _, _, _, _⟩ (T D5) rfl (by kernel_rfl) (by kernel_rfl) (by decide) (by kernel_rfl) (by kernel_rfl) (by kernel_rfl) q9 (Or.inl ⟨by rfl, by (intro X hX; have := And.intro t5 z5; go_simp)⟩) ?_
      simp only [Act.put, List.setIfInBounds_toArray, List.set_cons_zero, List.set_cons_succ]
      refine Ht.step (i := 23) ⟨some 62, _, _, _, _, _⟩ rfl (by kernel_rfl) (by rfl) (fun K hK => ?_)
      refine Ht.enter 44 #[.int .i64 ct] (by have hen := fun args w => enters_of (P := Try.prog) Try.func44 (by kernel_rfl) rfl args w; go_simp) (HC.out.2.2.2.2.2 _) ?_
      rintro e v10 ⟨rfl, b10⟩
      have B10 := Lib.hid b10
      have q10 : Below wr.heap.size wr v10 := q9.trans (B10.out.mono q9.size)
      clear b10
      refine ⟨_, rfl, hK _ _ (fun hn => q10) (fun hnx => ?_)⟩
      clear hK K hnx
      try simp only [Act.put, List.setIfInBounds_toArray, List.set_cons_zero, List.set_cons_succ]
      refine Ht.takeD 8 (i := 24) ⟨some 63, _, _, _, _, _⟩ (T D6) rfl (by kernel_rfl) (by kernel_rfl) (by decide) (by kernel_rfl) (by kernel_rfl) (by kernel_rfl) q10 (Or.inl ⟨by rfl, by (intro X hX; have := And.intro t6 z6; go_simp)⟩) ?_
      simp only [Act.put, List.setIfInBounds_toArray, List.set_cons_zero, List.set_cons_succ]
      refine Ht.step (i := 25) ⟨some 2, _, _, _, _, _⟩ rfl (by kernel_rfl) (by rfl) (fun K hK => ?_)
      go_simp
      refine hK _ _ (fun hn => absurd rfl hn) (fun hnx => ?_)
      clear hK K hnx
      try simp only [Act.put, List.setIfInBounds_toArray, List.set_cons_zero, List.set_cons_succ]
      refine done (by kernel_rfl) ?_
      clear t1 t2 t3 t4 t5 t6 z1 z2 z3 z4 z5 z6 q5 q6 q7 q8 q9 B5 B6 B7 B8 B9 B10
      go_wp2_with fail
      go_ret
      exact ⟨by rw [← HF.out.1]; rfl, HG.out.1.trans ((HF.out.2.trans (q10.mono HF.out.2.size)).mono HG.out.1.size)⟩
end Go.Proofs.Ytfidmjpjfigmcaa.Sp
