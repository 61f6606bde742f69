
/- an expression's text -/
import Derived.Test.YtjbfpllkgaialaaDoorCnTw
import Derived.Test.YtjbfpllkgaialaaDoorHd
namespace Go.Proofs.YtjbfpllkgaialaaDoor.Cn
open Go.RowKit Go.Lib Go.Proofs.YtjbfpllkgaialaaDoor.Ht
set_option linter.unusedVariables false

theorem join_five (x0 x1 x2 x3 x4 : L) (b : Nat) (w : World) (hb : w.heap[b]? = some (.cells #[S x0, S x1, S x2, S x3, S x4] 9 (0, 0))) (hlen : (join [x0, x1, x2, x3, x4] [32]).length ≤ 100000) :
    Calls Tryd.prog 25 #[.slice (some ⟨b, 0, none⟩) 5 5, .string ⟨#[32]⟩] w fun e w' => e = .returned (S (join [x0, x1, x2, x3, x4] [32])) ∧ Below w.heap.size w w' :=
  join_row [x0, x1, x2, x3, x4] [32] b _ w ⟨rfl, .inr ⟨b, 5, _, rfl, Nat.le_refl _, hb, Nat.le_refl _, by decide, rfl, rfl⟩⟩ hlen (by simp)
theorem lens_five (x0 x1 x2 x3 x4 : L) (h0 : x0.length ≤ 200) (h1 : x1.length ≤ 200) (h2 : x2.length ≤ 200) (h3 : x3.length ≤ 200) (h4 : x4.length ≤ 200) : (join [x0, x1, x2, x3, x4] [32]).length ≤ 100000 := by
  rw [join_length]
  simp only [lens, List.map_cons, List.map_nil, List.sum_cons, List.sum_nil, List.length_cons, List.length_nil]
  omega
set_option maxRecDepth 20000 in
set_option maxHeartbeats 8000000 in
theorem Text_any (e : Ex) (he : ExOk e) (w : World) (hg : Gd w) :
    Calls Tryd.prog 14 #[exv e] w fun r w' => r = .returned (S (exT e)) ∧ Below w.heap.size w w' := by
  obtain ⟨ea, eb, ec, ed, ee, ex, ey⟩ := e
  have ha : ea < 18446744073709551616 := he.a
  have hbb : eb < 18446744073709551616 := he.b
  have hc : ec < 18446744073709551616 := he.c
  have hd : ed < 18446744073709551616 := he.d
  have hee : ee < 18446744073709551616 := he.e
  have f0 := fun W hW => full_any 0 (by decide) ea W hW
  have f1 := fun W hW => full_any 1 (by decide) eb W hW
  have f3 := fun W hW => full_any 3 (by decide) ed W hW
  obtain ⟨s0, hs0⟩ : ∃ s, s = decide (ea = allM 0) := ⟨_, rfl⟩
  obtain ⟨s1, hs1⟩ : ∃ s, s = decide (eb = allM 1) := ⟨_, rfl⟩
  obtain ⟨s3, hs3⟩ : ∃ s, s = decide (ed = allM 3) := ⟨_, rfl⟩
  rw [← hs0] at f0; rw [← hs1] at f1; rw [← hs3] at f3
  have t0 := fun W hW => text_any ea ha s0 W hW
  have t1 := fun W hW => text_any eb hbb s1 W hW
  have t2 := fun W hW => text_any ec hc ex W hW
  have t3 := fun W hW => text_any ed hd s3 W hW
  have t4 := fun W hW => text_any ee hee ey W hW
  have l0 := textT_len ea s0
  have l1 := textT_len eb s1
  have l2 := textT_len ec ex
  have l3 := textT_len ed s3
  have l4 := textT_len ee ey
  have hT : exT ⟨ea, eb, ec, ed, ee, ex, ey⟩ = join [textT ea s0, textT eb s1, textT ec ex, textT ed s3, textT ee ey] [32] := by rw [hs0, hs1, hs3]; rfl
  rw [hT]
  generalize textT ea s0 = x0 at t0 l0 ⊢
  generalize textT eb s1 = x1 at t1 l1 ⊢
  generalize textT ec ex = x2 at t2 l2 ⊢
  generalize textT ed s3 = x3 at t3 l3 ⊢
  generalize textT ee ey = x4 at t4 l4 ⊢
  have hlen := lens_five x0 x1 x2 x3 x4 l0 l1 l2 l3 l4
  have hj := fun b W hb => join_five x0 x1 x2 x3 x4 b W hb hlen
  have HF := Lib.hid (And.intro f0 (And.intro f1 f3))
  have HT := Lib.hid (And.intro t0 (And.intro t1 (And.intro t2 (And.intro t3 t4))))
  have HJ := Lib.hid hj
  have HG := Lib.hid hg
  clear hT hs0 hs1 hs3 f0 f1 f3 t0 t1 t2 t3 t4 l0 l1 l2 l3 l4 hlen hj hg he ha hbb hc hd hee
  obtain ⟨V, hV⟩ : ∃ V, V = w.alloc (.cells #[u ea, u eb, u ec, u ed, u ee, .bool ex, .bool ey] 25) := ⟨_, rfl⟩
  obtain ⟨b1, b2, b3⟩ := cell_new w #[u ea, u eb, u ec, u ed, u ee, .bool ex, .bool ey] 25
  rw [← hV] at b1 b2 b3
  have HV := Lib.hid (And.intro hV b1)
  have HS1 := Lib.hid (show V.drew.heap[w.heap.size]? = some (.cells #[u ea, u eb, u ec, u ed, u ee, .bool ex, .bool ey] 25 (0, 0)) from b2)
  have HB0 := Lib.hid (b1.trans (Below.drew (Below.refl w.heap.size V)))
  clear hV b1 b2 b3
  have hmix : Tryd.prog.follows .mixedOrders = true := by kernel_rfl
  go_enter Tryd.func14, Tryd.ntmps14
  go_wp2_with fail
  rw [← HV.out.1]
  refine begin' 31 (fun Y => Y.heap[w.heap.size]? = some (.cells #[u ea, u eb, u ec, u ed, u ee, .bool ex, .bool ey] 25 (0, 0))) hmix HS1.out (fun hS0 => ?_)
  refine Ht.takeN (i := 0) ⟨some 3, _, _, _, _, _⟩ (.pointer (some ⟨w.heap.size, 0, none⟩)) rfl (Nat.le_refl 31) (by kernel_rfl) (by kernel_rfl) (by kernel_rfl) (by kernel_rfl) hS0 (Or.inl ⟨by rfl, by (intro X hX; go_simp)⟩) ?_
  simp only [Act.put, List.setIfInBounds_toArray, List.set_cons_zero, List.set_cons_succ]
  refine Ht.takeN (i := 1) ⟨some 4, _, _, _, _, _⟩ (u ea) rfl (Nat.le_refl 31) (by kernel_rfl) (by kernel_rfl) (by kernel_rfl) (by kernel_rfl) hS0 (Or.inl ⟨by rfl, by (intro X hX; obtain ⟨⟨c0, c1, c2, c3, c4, c5, c6⟩, _⟩ := seven hX; go_simp)⟩) ?_
  simp only [Act.put, List.setIfInBounds_toArray, List.set_cons_zero, List.set_cons_succ]
  refine Ht.takeN (i := 2) ⟨some 5, _, _, _, _, _⟩ (.pointer (some ⟨w.heap.size, 0, none⟩)) rfl (Nat.le_refl 31) (by kernel_rfl) (by kernel_rfl) (by kernel_rfl) (by kernel_rfl) hS0 (Or.inl ⟨by rfl, by (intro X hX; go_simp)⟩) ?_
  simp only [Act.put, List.setIfInBounds_toArray, List.set_cons_zero, List.set_cons_succ]
  refine Ht.takeN (i := 3) ⟨some 6, _, _, _, _, _⟩ (u ea) rfl (Nat.le_refl 31) (by kernel_rfl) (by kernel_rfl) (by kernel_rfl) (by kernel_rfl) hS0 (Or.inl ⟨by rfl, by (intro X hX; obtain ⟨⟨c0, c1, c2, c3, c4, c5, c6⟩, _⟩ := seven hX; go_simp)⟩) ?_
  simp only [Act.put, List.setIfInBounds_toArray, List.set_cons_zero, List.set_cons_succ]
  refine Ht.takeN (i := 6) ⟨some 9, _, _, _, _, _⟩ (.pointer (some ⟨w.heap.size, 1, none⟩)) rfl (Nat.le_refl 31) (by kernel_rfl) (by kernel_rfl) (by kernel_rfl) (by kernel_rfl) hS0 (Or.inl ⟨by rfl, by (intro X hX; go_simp)⟩) ?_
  simp only [Act.put, List.setIfInBounds_toArray, List.set_cons_zero, List.set_cons_succ]
  refine Ht.takeN (i := 7) ⟨some 10, _, _, _, _, _⟩ (u eb) rfl (Nat.le_refl 31) (by kernel_rfl) (by kernel_rfl) (by kernel_rfl) (by kernel_rfl) hS0 (Or.inl ⟨by rfl, by (intro X hX; obtain ⟨⟨c0, c1, c2, c3, c4, c5, c6⟩, _⟩ := seven hX; go_simp)⟩) ?_
  simp only [Act.put, List.setIfInBounds_toArray, List.set_cons_zero, List.set_cons_succ]
  refine Ht.takeN (i := 8) ⟨some 11, _, _, _, _, _⟩ (.pointer (some ⟨w.heap.size, 1, none⟩)) rfl (Nat.le_refl 31) (by kernel_rfl) (by kernel_rfl) (by kernel_rfl) (by kernel_rfl) hS0 (Or.inl ⟨by rfl, by (intro X hX; go_simp)⟩) ?_
  simp only [Act.put, List.setIfInBounds_toArray, List.set_cons_zero, List.set_cons_succ]
  refine Ht.takeN (i := 9) ⟨some 12, _, _, _, _, _⟩ (u eb) rfl (Nat.le_refl 31) (by kernel_rfl) (by kernel_rfl) (by kernel_rfl) (by kernel_rfl) hS0 (Or.inl ⟨by rfl, by (intro X hX; obtain ⟨⟨c0, c1, c2, c3, c4, c5, c6⟩, _⟩ := seven hX; go_simp)⟩) ?_
  simp only [Act.put, List.setIfInBounds_toArray, List.set_cons_zero, List.set_cons_succ]
  refine Ht.takeN (i := 12) ⟨some 15, _, _, _, _, _⟩ (.pointer (some ⟨w.heap.size, 2, none⟩)) rfl (Nat.le_refl 31) (by kernel_rfl) (by kernel_rfl) (by kernel_rfl) (by kernel_rfl) hS0 (Or.inl ⟨by rfl, by (intro X hX; go_simp)⟩) ?_
  simp only [Act.put, List.setIfInBounds_toArray, List.set_cons_zero, List.set_cons_succ]
  refine Ht.takeN (i := 13) ⟨some 16, _, _, _, _, _⟩ (u ec) rfl (Nat.le_refl 31) (by kernel_rfl) (by kernel_rfl) (by kernel_rfl) (by kernel_rfl) hS0 (Or.inl ⟨by rfl, by (intro X hX; obtain ⟨⟨c0, c1, c2, c3, c4, c5, c6⟩, _⟩ := seven hX; go_simp)⟩) ?_
  simp only [Act.put, List.setIfInBounds_toArray, List.set_cons_zero, List.set_cons_succ]
  refine Ht.takeN (i := 14) ⟨some 17, _, _, _, _, _⟩ (.pointer (some ⟨w.heap.size, 5, none⟩)) rfl (Nat.le_refl 31) (by kernel_rfl) (by kernel_rfl) (by kernel_rfl) (by kernel_rfl) hS0 (Or.inl ⟨by rfl, by (intro X hX; go_simp)⟩) ?_
  simp only [Act.put, List.setIfInBounds_toArray, List.set_cons_zero, List.set_cons_succ]
  refine Ht.takeN (i := 15) ⟨some 18, _, _, _, _, _⟩ (.bool ex) rfl (Nat.le_refl 31) (by kernel_rfl) (by kernel_rfl) (by kernel_rfl) (by kernel_rfl) hS0 (Or.inl ⟨by rfl, by (intro X hX; obtain ⟨⟨c0, c1, c2, c3, c4, c5, c6⟩, _⟩ := seven hX; go_simp)⟩) ?_
  simp only [Act.put, List.setIfInBounds_toArray, List.set_cons_zero, List.set_cons_succ]
  refine Ht.takeN (i := 17) ⟨some 20, _, _, _, _, _⟩ (.pointer (some ⟨w.heap.size, 3, none⟩)) rfl (Nat.le_refl 31) (by kernel_rfl) (by kernel_rfl) (by kernel_rfl) (by kernel_rfl) hS0 (Or.inl ⟨by rfl, by (intro X hX; go_simp)⟩) ?_
  simp only [Act.put, List.setIfInBounds_toArray, List.set_cons_zero, List.set_cons_succ]
  refine Ht.takeN (i := 18) ⟨some 21, _, _, _, _, _⟩ (u ed) rfl (Nat.le_refl 31) (by kernel_rfl) (by kernel_rfl) (by kernel_rfl) (by kernel_rfl) hS0 (Or.inl ⟨by rfl, by (intro X hX; obtain ⟨⟨c0, c1, c2, c3, c4, c5, c6⟩, _⟩ := seven hX; go_simp)⟩) ?_
  simp only [Act.put, List.setIfInBounds_toArray, List.set_cons_zero, List.set_cons_succ]
  refine Ht.takeN (i := 19) ⟨some 22, _, _, _, _, _⟩ (.pointer (some ⟨w.heap.size, 3, none⟩)) rfl (Nat.le_refl 31) (by kernel_rfl) (by kernel_rfl) (by kernel_rfl) (by kernel_rfl) hS0 (Or.inl ⟨by rfl, by (intro X hX; go_simp)⟩) ?_
  simp only [Act.put, List.setIfInBounds_toArray, List.set_cons_zero, List.set_cons_succ]
  refine Ht.takeN (i := 20) ⟨some 23, _, _, _, _, _⟩ (u ed) rfl (Nat.le_refl 31) (by kernel_rfl) (by kernel_rfl) (by kernel_rfl) (by kernel_rfl) hS0 (Or.inl ⟨by rfl, by (intro X hX; obtain ⟨⟨c0, c1, c2, c3, c4, c5, c6⟩, _⟩ := seven hX; go_simp)⟩) ?_
  simp only [Act.put, List.setIfInBounds_toArray, List.set_cons_zero, List.set_cons_succ]
  refine Ht.takeN (i := 23) ⟨some 26, _, _, _, _, _⟩ (.pointer (some ⟨w.heap.size, 4, none⟩)) rfl (Nat.le_refl 31) (by kernel_rfl) (by kernel_rfl) (by kernel_rfl) (by kernel_rfl) hS0 (Or.inl ⟨by rfl, by (intro X hX; go_simp)⟩) ?_
  simp only [Act.put, List.setIfInBounds_toArray, List.set_cons_zero, List.set_cons_succ]
  refine Ht.takeN (i := 24) ⟨some 27, _, _, _, _, _⟩ (u ee) rfl (Nat.le_refl 31) (by kernel_rfl) (by kernel_rfl) (by kernel_rfl) (by kernel_rfl) hS0 (Or.inl ⟨by rfl, by (intro X hX; obtain ⟨⟨c0, c1, c2, c3, c4, c5, c6⟩, _⟩ := seven hX; go_simp)⟩) ?_
  simp only [Act.put, List.setIfInBounds_toArray, List.set_cons_zero, List.set_cons_succ]
  refine Ht.takeN (i := 25) ⟨some 28, _, _, _, _, _⟩ (.pointer (some ⟨w.heap.size, 6, none⟩)) rfl (Nat.le_refl 31) (by kernel_rfl) (by kernel_rfl) (by kernel_rfl) (by kernel_rfl) hS0 (Or.inl ⟨by rfl, by (intro X hX; go_simp)⟩) ?_
  simp only [Act.put, List.setIfInBounds_toArray, List.set_cons_zero, List.set_cons_succ]
  refine Ht.takeN (i := 26) ⟨some 29, _, _, _, _, _⟩ (.bool ey) rfl (Nat.le_refl 31) (by kernel_rfl) (by kernel_rfl) (by kernel_rfl) (by kernel_rfl) hS0 (Or.inl ⟨by rfl, by (intro X hX; obtain ⟨⟨c0, c1, c2, c3, c4, c5, c6⟩, _⟩ := seven hX; go_simp)⟩) ?_
  simp only [Act.put, List.setIfInBounds_toArray, List.set_cons_zero, List.set_cons_succ]
  refine Ht.step (i := 4) ⟨some 7, _, _, _, _, _⟩ rfl (by kernel_rfl) (by rfl) (fun K hK => ?_)
  refine Ht.enter 27 #[.int .i64 (0 : Nat), u ea] (by have hen := fun args w => enters_of (P := Tryd.prog) Tryd.func27 (by kernel_rfl) rfl args w; go_simp) (HF.out.1 _ (HG.out.gl.old HB0.out)) ?_
  rintro e A1 ⟨rfl, hb⟩
  have hS1 := old_blk hb hS0
  have HB1 := Lib.hid (HB0.out.trans (hb.mono HB0.out.size))
  clear hb
  refine ⟨_, rfl, hK _ _ (fun _ => hS1) (fun _ => ?_)⟩
  clear hK K
  simp only [Act.put, List.setIfInBounds_toArray, List.set_cons_zero, List.set_cons_succ]
  refine Ht.step (i := 5) ⟨some 8, _, _, _, _, _⟩ rfl (by kernel_rfl) (by rfl) (fun K hK => ?_)
  refine Ht.enter 26 #[u ea, .bool s0] (by have hen := fun args w => enters_of (P := Tryd.prog) Tryd.func26 (by kernel_rfl) rfl args w; go_simp) (HT.out.1 _ (HG.out.old HB1.out)) ?_
  rintro e A2 ⟨rfl, hb⟩
  have hS2 := old_blk hb hS1
  have HB2 := Lib.hid (HB1.out.trans (hb.mono HB1.out.size))
  clear hb
  refine ⟨_, rfl, hK _ _ (fun _ => hS2) (fun _ => ?_)⟩
  clear hK K
  simp only [Act.put, List.setIfInBounds_toArray, List.set_cons_zero, List.set_cons_succ]
  refine Ht.step (i := 10) ⟨some 13, _, _, _, _, _⟩ rfl (by kernel_rfl) (by rfl) (fun K hK => ?_)
  refine Ht.enter 27 #[.int .i64 (1 : Nat), u eb] (by have hen := fun args w => enters_of (P := Tryd.prog) Tryd.func27 (by kernel_rfl) rfl args w; go_simp) (HF.out.2.1 _ (HG.out.gl.old HB2.out)) ?_
  rintro e A3 ⟨rfl, hb⟩
  have hS3 := old_blk hb hS2
  have HB3 := Lib.hid (HB2.out.trans (hb.mono HB2.out.size))
  clear hb
  refine ⟨_, rfl, hK _ _ (fun _ => hS3) (fun _ => ?_)⟩
  clear hK K
  simp only [Act.put, List.setIfInBounds_toArray, List.set_cons_zero, List.set_cons_succ]
  refine Ht.step (i := 11) ⟨some 14, _, _, _, _, _⟩ rfl (by kernel_rfl) (by rfl) (fun K hK => ?_)
  refine Ht.enter 26 #[u eb, .bool s1] (by have hen := fun args w => enters_of (P := Tryd.prog) Tryd.func26 (by kernel_rfl) rfl args w; go_simp) (HT.out.2.1 _ (HG.out.old HB3.out)) ?_
  rintro e A4 ⟨rfl, hb⟩
  have hS4 := old_blk hb hS3
  have HB4 := Lib.hid (HB3.out.trans (hb.mono HB3.out.size))
  clear hb
  refine ⟨_, rfl, hK _ _ (fun _ => hS4) (fun _ => ?_)⟩
  clear hK K
  simp only [Act.put, List.setIfInBounds_toArray, List.set_cons_zero, List.set_cons_succ]
  refine Ht.step (i := 16) ⟨some 19, _, _, _, _, _⟩ rfl (by kernel_rfl) (by rfl) (fun K hK => ?_)
  refine Ht.enter 26 #[u ec, .bool ex] (by have hen := fun args w => enters_of (P := Tryd.prog) Tryd.func26 (by kernel_rfl) rfl args w; go_simp) (HT.out.2.2.1 _ (HG.out.old HB4.out)) ?_
  rintro e A5 ⟨rfl, hb⟩
  have hS5 := old_blk hb hS4
  have HB5 := Lib.hid (HB4.out.trans (hb.mono HB4.out.size))
  clear hb
  refine ⟨_, rfl, hK _ _ (fun _ => hS5) (fun _ => ?_)⟩
  clear hK K
  simp only [Act.put, List.setIfInBounds_toArray, List.set_cons_zero, List.set_cons_succ]
  refine Ht.step (i := 21) ⟨some 24, _, _, _, _, _⟩ rfl (by kernel_rfl) (by rfl) (fun K hK => ?_)
  refine Ht.enter 27 #[.int .i64 (3 : Nat), u ed] (by have hen := fun args w => enters_of (P := Tryd.prog) Tryd.func27 (by kernel_rfl) rfl args w; go_simp) (HF.out.2.2 _ (HG.out.gl.old HB5.out)) ?_
  rintro e A6 ⟨rfl, hb⟩
  have hS6 := old_blk hb hS5
  have HB6 := Lib.hid (HB5.out.trans (hb.mono HB5.out.size))
  clear hb
  refine ⟨_, rfl, hK _ _ (fun _ => hS6) (fun _ => ?_)⟩
  clear hK K
  simp only [Act.put, List.setIfInBounds_toArray, List.set_cons_zero, List.set_cons_succ]
  refine Ht.step (i := 22) ⟨some 25, _, _, _, _, _⟩ rfl (by kernel_rfl) (by rfl) (fun K hK => ?_)
  refine Ht.enter 26 #[u ed, .bool s3] (by have hen := fun args w => enters_of (P := Tryd.prog) Tryd.func26 (by kernel_rfl) rfl args w; go_simp) (HT.out.2.2.2.1 _ (HG.out.old HB6.out)) ?_
  rintro e A7 ⟨rfl, hb⟩
  have hS7 := old_blk hb hS6
  have HB7 := Lib.hid (HB6.out.trans (hb.mono HB6.out.size))
  clear hb
  refine ⟨_, rfl, hK _ _ (fun _ => hS7) (fun _ => ?_)⟩
  clear hK K
  simp only [Act.put, List.setIfInBounds_toArray, List.set_cons_zero, List.set_cons_succ]
  refine Ht.step (i := 27) ⟨some 30, _, _, _, _, _⟩ rfl (by kernel_rfl) (by rfl) (fun K hK => ?_)
  refine Ht.enter 26 #[u ee, .bool ey] (by have hen := fun args w => enters_of (P := Tryd.prog) Tryd.func26 (by kernel_rfl) rfl args w; go_simp) (HT.out.2.2.2.2 _ (HG.out.old HB7.out)) ?_
  rintro e A8 ⟨rfl, hb⟩
  have hS8 := old_blk hb hS7
  have HB8 := Lib.hid (HB7.out.trans (hb.mono HB7.out.size))
  clear hb
  refine ⟨_, rfl, hK _ _ (fun _ => hS8) (fun _ => ?_)⟩
  clear hK K
  simp only [Act.put, List.setIfInBounds_toArray, List.set_cons_zero, List.set_cons_succ]
  refine Ht.step (i := 28) ⟨some 31, _, _, _, _, _⟩ rfl (by kernel_rfl) (by rfl) (fun K hK => ?_)
  obtain ⟨n1, n2, n3⟩ := cell_new A8 #[S x0, S x1, S x2, S x3, S x4] 9
  have hS9 := old_blk n1 hS8
  have HB9 := Lib.hid (HB8.out.trans (n1.mono HB8.out.size))
  have HN := Lib.hid n2
  clear n1 n2 n3
  go_simp
  refine hK _ _ (fun _ => hS9) (fun _ => ?_)
  clear hK K
  try simp only [Act.put, List.setIfInBounds_toArray, List.set_cons_zero, List.set_cons_succ]
  refine Ht.step (i := 29) ⟨some 32, _, _, _, _, _⟩ rfl (by kernel_rfl) (by rfl) (fun K hK => ?_)
  refine Ht.enter 25 #[.slice (some ⟨A8.heap.size, 0, none⟩) 5 5, .string ⟨#[32]⟩] (by have hen := fun args w => enters_of (P := Tryd.prog) Tryd.func25 (by kernel_rfl) rfl args w; go_simp) (HJ.out _ _ HN.out) ?_
  rintro e A10 ⟨rfl, hb⟩
  have hS10 := old_blk hb hS9
  have HB10 := Lib.hid (HB9.out.trans (hb.mono HB9.out.size))
  clear hb
  refine ⟨_, rfl, hK _ _ (fun _ => hS10) (fun _ => ?_)⟩
  clear hK K
  simp only [Act.put, List.setIfInBounds_toArray, List.set_cons_zero, List.set_cons_succ]
  refine Ht.takeN (i := 30) ⟨some 2, _, _, _, _, _⟩ (S (join [x0, x1, x2, x3, x4] [32])) rfl (Nat.le_refl 31) (by kernel_rfl) (by kernel_rfl) (by kernel_rfl) (by kernel_rfl) hS10 (Or.inl ⟨by rfl, by (intro X hX; go_simp)⟩) ?_
  simp only [Act.put, List.setIfInBounds_toArray, List.set_cons_zero, List.set_cons_succ]
  refine done (by kernel_rfl) ?_
  go_wp2_with fail
  go_ret
  exact ⟨rfl, HB10.out⟩
end Go.Proofs.YtjbfpllkgaialaaDoor.Cn
