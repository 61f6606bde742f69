
/- heaps of string and uint64: swap -/
import Derived.Test.YtomkefaakgodhaaHpDE
import Derived.Lib.BufferOwn
namespace Go.Proofs.Ytomkefaakgodhaa.HpE
open Go.RowKit Go.Lib Go.Sort Hp Ht
set_option linter.unusedVariables false
set_option maxRecDepth 20000
theorem Blk.free {w : World} {g cap : Nat} {l : List (K × Int)} (h : Blk w g cap l) (k : Nat) : w.frozen? ⟨g, k, none⟩ = false := by
  obtain ⟨cur, h1, _⟩ := h.here
  simp [World.frozen?, h1]
theorem grown_drew {w X : World} {r : Option Nat} (h : w.grownBy X r) : w.grownBy X.drew r := ⟨h.os, h.tape, h.output, h.size, h.block⟩
section
variable {S : Nat → Prop} {w : World} {hb : Nat} {iv mv : Value} {l : List (K × Int)} {f : K → Option Nat}
theorem swap_any (h : Hq S w hb iv mv l f) {i j : Nat} (hi : i < l.length) (hj : j < l.length) (hn : l.length ≤ 1000000) :
    Calls Try.prog 46 #[.pointer (some ⟨hb, 0, none⟩), .int .i64 ((i : Nat) : Int), .int .i64 ((j : Nat) : Int)] w fun e w' => e = .returned (.tuple #[]) ∧ (∃ f', Hq S w' hb iv mv (sw l i j) f') ∧ Fr S w w' := by
  have hI := h.items
  have hP := h.places
  obtain ⟨g, cap, b, rfl, hB, rfl, hM, hSg, hSb, hgb, hbb, hgm⟩ := h.at (by omega)
  have HH := Lib.hid (And.intro h (And.intro hB (And.intro hM (And.intro hSg (And.intro hSb (And.intro hgb (And.intro hbb hgm)))))))
  have k1 := hB.key hi
  have r1 := hB.rank hi
  have k2 := hB.key hj
  have r2 := hB.rank hj
  have fz1 := hB.free (i * 2)
  have fz2 := hB.free (i * 2 + 1)
  have hB1 := Blk.set hB i (el l j).1 (el l j).2 hi
  have HB1 := Lib.hid hB1
  have k3 := hB1.key (i := j) (by simpa using hj)
  have r3 := hB1.rank (i := j) (by simpa using hj)
  have fz3 := hB1.free (j * 2)
  have fz4 := hB1.free (j * 2 + 1)
  have HB2 := Lib.hid (Blk.set hB1 j (el l i).1 (el l i).2 (by simpa using hj))
  clear hM hB h hSg hSb hgb hbb hgm hB1
  obtain ⟨p1, hp1⟩ : ∃ x, x = (el l i).1 := ⟨_, rfl⟩
  obtain ⟨q1, hq1⟩ : ∃ x, x = (el l i).2 := ⟨_, rfl⟩
  obtain ⟨p2, hp2⟩ : ∃ x, x = (el l j).1 := ⟨_, rfl⟩
  obtain ⟨q2, hq2⟩ : ∃ x, x = (el l j).2 := ⟨_, rfl⟩
  obtain ⟨p3, hp3⟩ : ∃ x, x = (el (l.set i ((el l j).1, (el l j).2)) j).1 := ⟨_, rfl⟩
  obtain ⟨q3, hq3⟩ : ∃ x, x = (el (l.set i ((el l j).1, (el l j).2)) j).2 := ⟨_, rfl⟩
  rw [← hp3] at k3
  rw [← hq3] at r3
  rw [← hp1] at k1
  rw [← hq1] at r1
  rw [← hp2] at k2
  rw [← hq2] at r2
  rw [← hp2, ← hq2] at k3 r3 fz3 fz4
  unfold ek at k1 k2
  unfold er at r1 r2
  unfold ek er at k3 r3 fz3 fz4
  obtain ⟨n, hln⟩ : ∃ n, n = l.length := ⟨_, rfl⟩
  rw [← hln] at hI
  have hix : ((i : Nat) : Int) < ((n : Nat) : Int) := by omega
  have hjx : ((j : Nat) : Int) < ((n : Nat) : Int) := by omega
  have HL := Lib.hid (And.intro hp1 (And.intro hq1 (And.intro hp2 (And.intro hq2 (And.intro hln (And.intro hi (And.intro hj hn)))))))
  clear hp1 hq1 hp2 hq2 hp3 hq3 hln hi hj hn
  have hmix : Try.prog.follows .mixedOrders = true := by kernel_rfl
  go_enter Try.func46, Try.ntmps46
  go_wp2_with fail
  refine begin' 99 (fun _ => True) hmix trivial (fun _ => ?_)
  refine Ht.takeN (i := 9) ⟨some 15, _, _, _, _, _⟩ (.int .i64 ((j : Nat) : Int)) rfl (Nat.le_of_ble_eq_true (by kernel_rfl)) (by kernel_rfl) (by kernel_rfl) (by kernel_rfl) (by kernel_rfl) trivial (Or.inl ⟨by rfl, by (intro X hX; go_simp)⟩) ?_
  simp only [Act.put, List.setIfInBounds_toArray, List.set_cons_zero, List.set_cons_succ]
  refine later [25, 26, 27] (fun X => X.cell? ⟨hb, 0, none⟩ = some (.slice (some ⟨g, 0, none⟩) n cap) ∧ X.cell? ⟨g, i * 2, none⟩ = some (.string ⟨p1.toArray⟩) ∧ X.cell? ⟨g, i * 2 + 1, none⟩ = some (.int .u64 q1) ∧ X.cell? ⟨g, j * 2, none⟩ = some (.string ⟨p2.toArray⟩) ∧ X.cell? ⟨g, j * 2 + 1, none⟩ = some (.int .u64 q2)) (⟨hI, k1, r1, k2, r2⟩) (fun hS0 => ?_)
  refine Ht.takeS 10 (i := 0) ⟨some 6, _, _, _, _, _⟩ (.pointer (some ⟨hb, 0, none⟩)) rfl (by kernel_rfl) (by kernel_rfl) (by kernel_rfl) (by kernel_rfl) (by kernel_rfl) hS0 (Or.inl ⟨by rfl, by (intro X hX; go_simp)⟩) ?_
  simp only [Act.put, List.setIfInBounds_toArray, List.set_cons_zero, List.set_cons_succ]
  refine Ht.takeS 10 (i := 1) ⟨some 7, _, _, _, _, _⟩ (.pointer (some ⟨hb, 0, none⟩)) rfl (by kernel_rfl) (by kernel_rfl) (by kernel_rfl) (by kernel_rfl) (by kernel_rfl) hS0 (Or.inl ⟨by rfl, by (intro X hX; go_simp)⟩) ?_
  simp only [Act.put, List.setIfInBounds_toArray, List.set_cons_zero, List.set_cons_succ]
  refine Ht.takeS 10 (i := 2) ⟨some 8, _, _, _, _, _⟩ (.pointer (some ⟨hb, 0, none⟩)) rfl (by kernel_rfl) (by kernel_rfl) (by kernel_rfl) (by kernel_rfl) (by kernel_rfl) hS0 (Or.inl ⟨by rfl, by (intro X hX; go_simp)⟩) ?_
  simp only [Act.put, List.setIfInBounds_toArray, List.set_cons_zero, List.set_cons_succ]
  refine Ht.takeS 10 (i := 3) ⟨some 9, _, _, _, _, _⟩ (.slice (some ⟨g, 0, none⟩) n cap) rfl (by kernel_rfl) (by kernel_rfl) (by kernel_rfl) (by kernel_rfl) (by kernel_rfl) hS0 (Or.inl ⟨by rfl, by (intro X hX; have := hX.1; go_simp)⟩) ?_
  simp only [Act.put, List.setIfInBounds_toArray, List.set_cons_zero, List.set_cons_succ]
  refine Ht.takeS 10 (i := 4) ⟨some 10, _, _, _, _, _⟩ (.int .i64 ((i : Nat) : Int)) rfl (by kernel_rfl) (by kernel_rfl) (by kernel_rfl) (by kernel_rfl) (by kernel_rfl) hS0 (Or.inl ⟨by rfl, by (intro X hX; go_simp)⟩) ?_
  simp only [Act.put, List.setIfInBounds_toArray, List.set_cons_zero, List.set_cons_succ]
  refine Ht.takeS 10 (i := 5) ⟨some 11, _, _, _, _, _⟩ (.pointer (some ⟨hb, 0, none⟩)) rfl (by kernel_rfl) (by kernel_rfl) (by kernel_rfl) (by kernel_rfl) (by kernel_rfl) hS0 (Or.inl ⟨by rfl, by (intro X hX; go_simp)⟩) ?_
  simp only [Act.put, List.setIfInBounds_toArray, List.set_cons_zero, List.set_cons_succ]
  refine Ht.takeS 10 (i := 6) ⟨some 12, _, _, _, _, _⟩ (.pointer (some ⟨hb, 0, none⟩)) rfl (by kernel_rfl) (by kernel_rfl) (by kernel_rfl) (by kernel_rfl) (by kernel_rfl) hS0 (Or.inl ⟨by rfl, by (intro X hX; go_simp)⟩) ?_
  simp only [Act.put, List.setIfInBounds_toArray, List.set_cons_zero, List.set_cons_succ]
  refine Ht.takeS 10 (i := 7) ⟨some 13, _, _, _, _, _⟩ (.pointer (some ⟨hb, 0, none⟩)) rfl (by kernel_rfl) (by kernel_rfl) (by kernel_rfl) (by kernel_rfl) (by kernel_rfl) hS0 (Or.inl ⟨by rfl, by (intro X hX; go_simp)⟩) ?_
  simp only [Act.put, List.setIfInBounds_toArray, List.set_cons_zero, List.set_cons_succ]
  refine Ht.takeS 10 (i := 8) ⟨some 14, _, _, _, _, _⟩ (.slice (some ⟨g, 0, none⟩) n cap) rfl (by kernel_rfl) (by kernel_rfl) (by kernel_rfl) (by kernel_rfl) (by kernel_rfl) hS0 (Or.inl ⟨by rfl, by (intro X hX; have := hX.1; go_simp)⟩) ?_
  simp only [Act.put, List.setIfInBounds_toArray, List.set_cons_zero, List.set_cons_succ]
  refine Ht.takeS 10 (i := 10) ⟨some 16, _, _, _, _, _⟩ (.pointer (some ⟨hb, 0, none⟩)) rfl (by kernel_rfl) (by kernel_rfl) (by kernel_rfl) (by kernel_rfl) (by kernel_rfl) hS0 (Or.inl ⟨by rfl, by (intro X hX; go_simp)⟩) ?_
  simp only [Act.put, List.setIfInBounds_toArray, List.set_cons_zero, List.set_cons_succ]
  refine Ht.takeS 10 (i := 11) ⟨some 17, _, _, _, _, _⟩ (.pointer (some ⟨hb, 0, none⟩)) rfl (by kernel_rfl) (by kernel_rfl) (by kernel_rfl) (by kernel_rfl) (by kernel_rfl) hS0 (Or.inl ⟨by rfl, by (intro X hX; go_simp)⟩) ?_
  simp only [Act.put, List.setIfInBounds_toArray, List.set_cons_zero, List.set_cons_succ]
  refine Ht.takeS 10 (i := 12) ⟨some 18, _, _, _, _, _⟩ (.pointer (some ⟨hb, 0, none⟩)) rfl (by kernel_rfl) (by kernel_rfl) (by kernel_rfl) (by kernel_rfl) (by kernel_rfl) hS0 (Or.inl ⟨by rfl, by (intro X hX; go_simp)⟩) ?_
  simp only [Act.put, List.setIfInBounds_toArray, List.set_cons_zero, List.set_cons_succ]
  refine Ht.takeS 10 (i := 13) ⟨some 19, _, _, _, _, _⟩ (.slice (some ⟨g, 0, none⟩) n cap) rfl (by kernel_rfl) (by kernel_rfl) (by kernel_rfl) (by kernel_rfl) (by kernel_rfl) hS0 (Or.inl ⟨by rfl, by (intro X hX; have := hX.1; go_simp)⟩) ?_
  simp only [Act.put, List.setIfInBounds_toArray, List.set_cons_zero, List.set_cons_succ]
  refine Ht.takeS 10 (i := 14) ⟨some 20, _, _, _, _, _⟩ (.int .i64 ((j : Nat) : Int)) rfl (by kernel_rfl) (by kernel_rfl) (by kernel_rfl) (by kernel_rfl) (by kernel_rfl) hS0 (Or.inl ⟨by rfl, by (intro X hX; go_simp)⟩) ?_
  simp only [Act.put, List.setIfInBounds_toArray, List.set_cons_zero, List.set_cons_succ]
  refine Ht.takeS 10 (i := 15) ⟨some 21, _, _, _, _, _⟩ (.pointer (some ⟨g, j * 2, none⟩)) rfl (by kernel_rfl) (by kernel_rfl) (by kernel_rfl) (by kernel_rfl) (by kernel_rfl) hS0 (Or.inl ⟨by rfl, by (intro X hX; go_simp)⟩) ?_
  simp only [Act.put, List.setIfInBounds_toArray, List.set_cons_zero, List.set_cons_succ]
  refine Ht.takeS 10 (i := 16) ⟨some 22, _, _, _, _, _⟩ (.agg #[(.string ⟨p2.toArray⟩), (.int .u64 q2)]) rfl (by kernel_rfl) (by kernel_rfl) (by kernel_rfl) (by kernel_rfl) (by kernel_rfl) hS0 (Or.inl ⟨by rfl, by (intro X hX; have := And.intro hX.2.2.2.1 hX.2.2.2.2; go_simp)⟩) ?_
  simp only [Act.put, List.setIfInBounds_toArray, List.set_cons_zero, List.set_cons_succ]
  refine Ht.takeS 10 (i := 17) ⟨some 23, _, _, _, _, _⟩ (.pointer (some ⟨hb, 0, none⟩)) rfl (by kernel_rfl) (by kernel_rfl) (by kernel_rfl) (by kernel_rfl) (by kernel_rfl) hS0 (Or.inl ⟨by rfl, by (intro X hX; go_simp)⟩) ?_
  simp only [Act.put, List.setIfInBounds_toArray, List.set_cons_zero, List.set_cons_succ]
  refine Ht.takeS 10 (i := 18) ⟨some 24, _, _, _, _, _⟩ (.pointer (some ⟨hb, 0, none⟩)) rfl (by kernel_rfl) (by kernel_rfl) (by kernel_rfl) (by kernel_rfl) (by kernel_rfl) hS0 (Or.inl ⟨by rfl, by (intro X hX; go_simp)⟩) ?_
  simp only [Act.put, List.setIfInBounds_toArray, List.set_cons_zero, List.set_cons_succ]
  refine Ht.takeS 10 (i := 19) ⟨some 25, _, _, _, _, _⟩ (.pointer (some ⟨hb, 0, none⟩)) rfl (by kernel_rfl) (by kernel_rfl) (by kernel_rfl) (by kernel_rfl) (by kernel_rfl) hS0 (Or.inl ⟨by rfl, by (intro X hX; go_simp)⟩) ?_
  simp only [Act.put, List.setIfInBounds_toArray, List.set_cons_zero, List.set_cons_succ]
  refine Ht.takeS 10 (i := 20) ⟨some 26, _, _, _, _, _⟩ (.slice (some ⟨g, 0, none⟩) n cap) rfl (by kernel_rfl) (by kernel_rfl) (by kernel_rfl) (by kernel_rfl) (by kernel_rfl) hS0 (Or.inl ⟨by rfl, by (intro X hX; have := hX.1; go_simp)⟩) ?_
  simp only [Act.put, List.setIfInBounds_toArray, List.set_cons_zero, List.set_cons_succ]
  refine Ht.takeS 10 (i := 21) ⟨some 27, _, _, _, _, _⟩ (.int .i64 ((i : Nat) : Int)) rfl (by kernel_rfl) (by kernel_rfl) (by kernel_rfl) (by kernel_rfl) (by kernel_rfl) hS0 (Or.inl ⟨by rfl, by (intro X hX; go_simp)⟩) ?_
  simp only [Act.put, List.setIfInBounds_toArray, List.set_cons_zero, List.set_cons_succ]
  refine Ht.takeS 10 (i := 22) ⟨some 28, _, _, _, _, _⟩ (.pointer (some ⟨g, i * 2, none⟩)) rfl (by kernel_rfl) (by kernel_rfl) (by kernel_rfl) (by kernel_rfl) (by kernel_rfl) hS0 (Or.inl ⟨by rfl, by (intro X hX; go_simp)⟩) ?_
  simp only [Act.put, List.setIfInBounds_toArray, List.set_cons_zero, List.set_cons_succ]
  refine Ht.takeS 10 (i := 23) ⟨some 29, _, _, _, _, _⟩ (.agg #[(.string ⟨p1.toArray⟩), (.int .u64 q1)]) rfl (by kernel_rfl) (by kernel_rfl) (by kernel_rfl) (by kernel_rfl) (by kernel_rfl) hS0 (Or.inl ⟨by rfl, by (intro X hX; have := And.intro hX.2.1 hX.2.2.1; go_simp)⟩) ?_
  simp only [Act.put, List.setIfInBounds_toArray, List.set_cons_zero, List.set_cons_succ]
  refine Ht.takeS 10 (i := 24) ⟨some 30, _, _, _, _, _⟩ (.pointer (some ⟨g, i * 2, none⟩)) rfl (by kernel_rfl) (by kernel_rfl) (by kernel_rfl) (by kernel_rfl) (by kernel_rfl) hS0 (Or.inl ⟨by rfl, by (intro X hX; go_simp)⟩) ?_
  simp only [Act.put, List.setIfInBounds_toArray, List.set_cons_zero, List.set_cons_succ]
  refine Ht.stepS (i := 25) ⟨none, _, _, _, _, _⟩ rfl (by kernel_rfl) (by rfl) (fun K hK => ?_)
  have a1 : w.drew.cell? ⟨g, i * 2, none⟩ = some (.string ⟨p1.toArray⟩) := k1
  have a2 : w.drew.cell? ⟨g, i * 2 + 1, none⟩ = some (.int .u64 q1) := r1
  have a3 : w.drew.frozen? ⟨g, i * 2, none⟩ = false := fz1
  have a4 : w.drew.frozen? ⟨g, i * 2 + 1, none⟩ = false := fz2
  go_simp
  clear a1 a2 a3 a4
  refine hK _ _ (fun hn => absurd (by decide) hn) (fun hnx => ?_)
  clear hK K hnx
  try simp only [Act.put, List.setIfInBounds_toArray, List.set_cons_zero, List.set_cons_succ]
  refine Ht.stepS (i := 26) ⟨some 31, _, _, _, _, _⟩ rfl (by kernel_rfl) (by rfl) (fun K hK => ?_)
  go_simp
  refine hK _ _ (fun hn => absurd (by decide) hn) (fun hnx => ?_)
  clear hK K hnx
  try simp only [Act.put, List.setIfInBounds_toArray, List.set_cons_zero, List.set_cons_succ]
  refine Ht.stepS (i := 27) ⟨none, _, _, _, _, _⟩ rfl (by kernel_rfl) (by rfl) (fun K hK => ?_)
  obtain ⟨U, hU⟩ : ∃ U, U = (w.setCell ⟨g, i * 2, none⟩ ((.string ⟨p2.toArray⟩))).setCell ⟨g, i * 2 + 1, none⟩ ((.int .u64 q2)) := ⟨_, rfl⟩
  have a1 : U.drew.cell? ⟨g, j * 2, none⟩ = some ((.string ⟨p3.toArray⟩)) := by rw [hU]; exact k3
  have a2 : U.drew.cell? ⟨g, j * 2 + 1, none⟩ = some ((.int .u64 q3)) := by rw [hU]; exact r3
  have a3 : U.drew.frozen? ⟨g, j * 2, none⟩ = false := by rw [hU]; exact fz3
  have a4 : U.drew.frozen? ⟨g, j * 2 + 1, none⟩ = false := by rw [hU]; exact fz4
  have a5 : U.cell? ⟨g, j * 2 + 1, none⟩ = some ((.int .u64 q3)) := a2
  have a6 : U.frozen? ⟨g, j * 2 + 1, none⟩ = false := a4
  rw [← hU]
  have HU := Lib.hid hU
  clear hU
  go_simp
  clear a1 a2 a3 a4 a5 a6
  refine hK _ _ (fun hn => absurd (by decide) hn) (fun hnx => ?_)
  clear hK K hnx
  try simp only [Act.put, List.setIfInBounds_toArray, List.set_cons_zero, List.set_cons_succ]
  refine doneS (by kernel_rfl) ?_
  obtain ⟨V, hV⟩ : ∃ V, V = ((U.setCell ⟨g, j * 2, none⟩ ((.string ⟨p1.toArray⟩))).setCell ⟨g, j * 2 + 1, none⟩ ((.int .u64 q1))).drew := ⟨_, rfl⟩
  rw [← hV]
  obtain ⟨h, hB, hM, hSg, hSb, hgb, hbb, hgm⟩ := HH.out
  obtain ⟨hp1, hq1, hp2, hq2, hln, hi, hj, hn⟩ := HL.out
  have hBV : Blk V g cap (sw l i j) := by
    rw [hV, HU.out, hp1, hq1, hp2, hq2]
    exact HB2.out.kept rfl
  have hgr : w.grownBy V (some g) := by
    rw [hV, HU.out]
    exact grown_drew (Lib.grownBy_setB (Lib.grownBy_setB (Lib.grownBy_setB (Lib.grownBy_setCell w g _ _) _ _) _ _) _ _)
  have hobj : V.heap[hb]? = w.heap[hb]? := hgr.block hb (h.size hb h.own) (fun e => hgb (Option.some.inj e).symm)
  have hmap : V.heap[b]? = w.heap[b]? := hgr.block b (h.size b hSb) (fun e => hgm (Option.some.inj e).symm)
  have hMV : Mq V b l.length f := hM.kept hmap
  have hI : V.cell? ⟨hb, 0, none⟩ = some (.slice (some ⟨g, 0, none⟩) n cap) := by rw [hln, cell_of_row V hb 0 _ _ _ (hobj.trans h.obj)]; rfl
  have hP : V.cell? ⟨hb, 1, none⟩ = some (.map (some b)) := by rw [cell_of_row V hb 1 _ _ _ (hobj.trans h.obj)]; rfl
  have hk1 := hBV.key (i := i) (by rw [len_sw]; exact hi)
  have hk2 := hBV.key (i := j) (by rw [len_sw]; exact hj)
  have hpl := h.pl.sw hi hj
  have hq := h.keys
  -- the map
  obtain ⟨c1, hc1⟩ : ∃ x, x = (el (sw l i j) i).1 := ⟨_, rfl⟩
  obtain ⟨c2, hc2⟩ : ∃ x, x = (el (sw l i j) j).1 := ⟨_, rfl⟩
  have e1 : c1 = (el l j).1 := by rw [hc1, sw_l l hi hj]
  have e2 : c2 = (el l i).1 := by rw [hc2, sw_r l hj]
  have w1 : wk c1 := by rw [e1]; exact hq _ (el_mem hj)
  have w2 : wk c2 := by rw [e2]; exact hq _ (el_mem hi)
  have f1 : (f c1).isSome = true := by rw [e1, h.pl.key hj]; rfl
  have f2 : (f c2).isSome = true := by rw [e2, h.pl.key hi]; rfl
  rw [← hc1] at hk1
  rw [← hc2] at hk2
  rw [← hc1, ← hc2] at hpl
  have hmax : l.length < maxLen := by unfold maxLen; omega
  have hMd : Mq V.drew b l.length f := hMV.kept rfl
  obtain ⟨s1, v1, st1, run1⟩ := hMd.entry kind w1 (by rw [mf_some]; exact f1)
  obtain ⟨V2, run2, hM2, hg2, st2⟩ := hMd.store kind hmax w1 (by rw [mf_some]; exact f1) st1 (wf_nat (i := i) (by omega))
  have f2' : ((upd (mf f) c1 ((i : Nat) : Int)) c2).isSome = true := by unfold upd; split; rfl; rw [mf_some]; exact f2
  obtain ⟨s2, v2, st3, run3⟩ := Mp.entry kind hM2 w2 f2'
  obtain ⟨V3, run4, hM3, hg3, _⟩ := Mp.store kind hM2 hmax w2 f2' st3 (wf_nat (i := j) (by omega))
  have HV := Lib.hid (And.intro hpl (And.intro hBV (And.intro hgr (And.intro hobj (And.intro hg2 (And.intro hM3 hg3))))))
  clear hM2 hM3 hg2 hg3 st1 st2 st3 hMd hMV hpl hBV hgr hobj hmap h hB hM hSg hSb hgb hbb hgm hp1 hq1 hp2 hq2 hln hi hj hn hq e1 e2 hc1 hc2 w1 w2 f1 f2 f2' hmax hV HU HB1 HB2 k1 k2 k3 r1 r2 r3 fz1 fz2 fz3 fz4 hS0
  unfold ek at hk1 hk2 run1 run3
  unfold goInt at run1 run2 run3 run4
  go_wp2_with fail
  refine begin' 99 (fun _ => True) hmix trivial (fun _ => ?_)
  refine Ht.takeN (i := 24) ⟨some 56, _, _, _, _, _⟩ (.int .i64 ((i : Nat) : Int)) rfl (Nat.le_of_ble_eq_true (by kernel_rfl)) (by kernel_rfl) (by kernel_rfl) (by kernel_rfl) (by kernel_rfl) trivial (Or.inl ⟨by rfl, by (intro X hX; go_simp)⟩) ?_
  simp only [Act.put, List.setIfInBounds_toArray, List.set_cons_zero, List.set_cons_succ]
  refine Ht.takeN (i := 25) ⟨some 57, _, _, _, _, _⟩ (.int .i64 ((j : Nat) : Int)) rfl (Nat.le_of_ble_eq_true (by kernel_rfl)) (by kernel_rfl) (by kernel_rfl) (by kernel_rfl) (by kernel_rfl) trivial (Or.inl ⟨by rfl, by (intro X hX; go_simp)⟩) ?_
  simp only [Act.put, List.setIfInBounds_toArray, List.set_cons_zero, List.set_cons_succ]
  refine later [26, 27, 28, 29, 30, 31] (fun X => X.cell? ⟨hb, 0, none⟩ = some (.slice (some ⟨g, 0, none⟩) n cap) ∧ X.cell? ⟨hb, 1, none⟩ = some (.map (some b)) ∧ X.cell? ⟨g, i * 2, none⟩ = some ((.string ⟨c1.toArray⟩)) ∧ X.cell? ⟨g, j * 2, none⟩ = some ((.string ⟨c2.toArray⟩))) (⟨hI, hP, hk1, hk2⟩) (fun hS0 => ?_)
  refine Ht.takeS 10 (i := 0) ⟨some 32, _, _, _, _, _⟩ (.pointer (some ⟨hb, 0, none⟩)) rfl (by kernel_rfl) (by kernel_rfl) (by kernel_rfl) (by kernel_rfl) (by kernel_rfl) hS0 (Or.inl ⟨by rfl, by (intro X hX; go_simp)⟩) ?_
  simp only [Act.put, List.setIfInBounds_toArray, List.set_cons_zero, List.set_cons_succ]
  refine Ht.takeS 10 (i := 1) ⟨some 33, _, _, _, _, _⟩ (.pointer (some ⟨hb, 0, none⟩)) rfl (by kernel_rfl) (by kernel_rfl) (by kernel_rfl) (by kernel_rfl) (by kernel_rfl) hS0 (Or.inl ⟨by rfl, by (intro X hX; go_simp)⟩) ?_
  simp only [Act.put, List.setIfInBounds_toArray, List.set_cons_zero, List.set_cons_succ]
  refine Ht.takeS 10 (i := 2) ⟨some 34, _, _, _, _, _⟩ (.pointer (some ⟨hb, 1, none⟩)) rfl (by kernel_rfl) (by kernel_rfl) (by kernel_rfl) (by kernel_rfl) (by kernel_rfl) hS0 (Or.inl ⟨by rfl, by (intro X hX; go_simp)⟩) ?_
  simp only [Act.put, List.setIfInBounds_toArray, List.set_cons_zero, List.set_cons_succ]
  refine Ht.takeS 10 (i := 3) ⟨some 35, _, _, _, _, _⟩ (.map (some b)) rfl (by kernel_rfl) (by kernel_rfl) (by kernel_rfl) (by kernel_rfl) (by kernel_rfl) hS0 (Or.inl ⟨by rfl, by (intro X hX; have := hX.2.1; go_simp)⟩) ?_
  simp only [Act.put, List.setIfInBounds_toArray, List.set_cons_zero, List.set_cons_succ]
  refine Ht.takeS 10 (i := 4) ⟨some 36, _, _, _, _, _⟩ (.pointer (some ⟨hb, 0, none⟩)) rfl (by kernel_rfl) (by kernel_rfl) (by kernel_rfl) (by kernel_rfl) (by kernel_rfl) hS0 (Or.inl ⟨by rfl, by (intro X hX; go_simp)⟩) ?_
  simp only [Act.put, List.setIfInBounds_toArray, List.set_cons_zero, List.set_cons_succ]
  refine Ht.takeS 10 (i := 5) ⟨some 37, _, _, _, _, _⟩ (.pointer (some ⟨hb, 0, none⟩)) rfl (by kernel_rfl) (by kernel_rfl) (by kernel_rfl) (by kernel_rfl) (by kernel_rfl) hS0 (Or.inl ⟨by rfl, by (intro X hX; go_simp)⟩) ?_
  simp only [Act.put, List.setIfInBounds_toArray, List.set_cons_zero, List.set_cons_succ]
  refine Ht.takeS 10 (i := 6) ⟨some 38, _, _, _, _, _⟩ (.pointer (some ⟨hb, 0, none⟩)) rfl (by kernel_rfl) (by kernel_rfl) (by kernel_rfl) (by kernel_rfl) (by kernel_rfl) hS0 (Or.inl ⟨by rfl, by (intro X hX; go_simp)⟩) ?_
  simp only [Act.put, List.setIfInBounds_toArray, List.set_cons_zero, List.set_cons_succ]
  refine Ht.takeS 10 (i := 7) ⟨some 39, _, _, _, _, _⟩ (.slice (some ⟨g, 0, none⟩) n cap) rfl (by kernel_rfl) (by kernel_rfl) (by kernel_rfl) (by kernel_rfl) (by kernel_rfl) hS0 (Or.inl ⟨by rfl, by (intro X hX; have := hX.1; go_simp)⟩) ?_
  simp only [Act.put, List.setIfInBounds_toArray, List.set_cons_zero, List.set_cons_succ]
  refine Ht.takeS 10 (i := 8) ⟨some 40, _, _, _, _, _⟩ (.int .i64 ((i : Nat) : Int)) rfl (by kernel_rfl) (by kernel_rfl) (by kernel_rfl) (by kernel_rfl) (by kernel_rfl) hS0 (Or.inl ⟨by rfl, by (intro X hX; go_simp)⟩) ?_
  simp only [Act.put, List.setIfInBounds_toArray, List.set_cons_zero, List.set_cons_succ]
  refine Ht.takeS 10 (i := 9) ⟨some 41, _, _, _, _, _⟩ (.pointer (some ⟨g, i * 2, none⟩)) rfl (by kernel_rfl) (by kernel_rfl) (by kernel_rfl) (by kernel_rfl) (by kernel_rfl) hS0 (Or.inl ⟨by rfl, by (intro X hX; go_simp)⟩) ?_
  simp only [Act.put, List.setIfInBounds_toArray, List.set_cons_zero, List.set_cons_succ]
  refine Ht.takeS 10 (i := 10) ⟨some 42, _, _, _, _, _⟩ (.pointer (some ⟨g, i * 2, none⟩)) rfl (by kernel_rfl) (by kernel_rfl) (by kernel_rfl) (by kernel_rfl) (by kernel_rfl) hS0 (Or.inl ⟨by rfl, by (intro X hX; go_simp)⟩) ?_
  simp only [Act.put, List.setIfInBounds_toArray, List.set_cons_zero, List.set_cons_succ]
  refine Ht.takeS 10 (i := 11) ⟨some 43, _, _, _, _, _⟩ ((.string ⟨c1.toArray⟩)) rfl (by kernel_rfl) (by kernel_rfl) (by kernel_rfl) (by kernel_rfl) (by kernel_rfl) hS0 (Or.inl ⟨by rfl, by (intro X hX; have := hX.2.2.1; go_simp)⟩) ?_
  simp only [Act.put, List.setIfInBounds_toArray, List.set_cons_zero, List.set_cons_succ]
  refine Ht.takeS 10 (i := 12) ⟨some 44, _, _, _, _, _⟩ (.pointer (some ⟨hb, 0, none⟩)) rfl (by kernel_rfl) (by kernel_rfl) (by kernel_rfl) (by kernel_rfl) (by kernel_rfl) hS0 (Or.inl ⟨by rfl, by (intro X hX; go_simp)⟩) ?_
  simp only [Act.put, List.setIfInBounds_toArray, List.set_cons_zero, List.set_cons_succ]
  refine Ht.takeS 10 (i := 13) ⟨some 45, _, _, _, _, _⟩ (.pointer (some ⟨hb, 0, none⟩)) rfl (by kernel_rfl) (by kernel_rfl) (by kernel_rfl) (by kernel_rfl) (by kernel_rfl) hS0 (Or.inl ⟨by rfl, by (intro X hX; go_simp)⟩) ?_
  simp only [Act.put, List.setIfInBounds_toArray, List.set_cons_zero, List.set_cons_succ]
  refine Ht.takeS 10 (i := 14) ⟨some 46, _, _, _, _, _⟩ (.pointer (some ⟨hb, 1, none⟩)) rfl (by kernel_rfl) (by kernel_rfl) (by kernel_rfl) (by kernel_rfl) (by kernel_rfl) hS0 (Or.inl ⟨by rfl, by (intro X hX; go_simp)⟩) ?_
  simp only [Act.put, List.setIfInBounds_toArray, List.set_cons_zero, List.set_cons_succ]
  refine Ht.takeS 10 (i := 15) ⟨some 47, _, _, _, _, _⟩ (.map (some b)) rfl (by kernel_rfl) (by kernel_rfl) (by kernel_rfl) (by kernel_rfl) (by kernel_rfl) hS0 (Or.inl ⟨by rfl, by (intro X hX; have := hX.2.1; go_simp)⟩) ?_
  simp only [Act.put, List.setIfInBounds_toArray, List.set_cons_zero, List.set_cons_succ]
  refine Ht.takeS 10 (i := 16) ⟨some 48, _, _, _, _, _⟩ (.pointer (some ⟨hb, 0, none⟩)) rfl (by kernel_rfl) (by kernel_rfl) (by kernel_rfl) (by kernel_rfl) (by kernel_rfl) hS0 (Or.inl ⟨by rfl, by (intro X hX; go_simp)⟩) ?_
  simp only [Act.put, List.setIfInBounds_toArray, List.set_cons_zero, List.set_cons_succ]
  refine Ht.takeS 10 (i := 17) ⟨some 49, _, _, _, _, _⟩ (.pointer (some ⟨hb, 0, none⟩)) rfl (by kernel_rfl) (by kernel_rfl) (by kernel_rfl) (by kernel_rfl) (by kernel_rfl) hS0 (Or.inl ⟨by rfl, by (intro X hX; go_simp)⟩) ?_
  simp only [Act.put, List.setIfInBounds_toArray, List.set_cons_zero, List.set_cons_succ]
  refine Ht.takeS 10 (i := 18) ⟨some 50, _, _, _, _, _⟩ (.pointer (some ⟨hb, 0, none⟩)) rfl (by kernel_rfl) (by kernel_rfl) (by kernel_rfl) (by kernel_rfl) (by kernel_rfl) hS0 (Or.inl ⟨by rfl, by (intro X hX; go_simp)⟩) ?_
  simp only [Act.put, List.setIfInBounds_toArray, List.set_cons_zero, List.set_cons_succ]
  refine Ht.takeS 10 (i := 19) ⟨some 51, _, _, _, _, _⟩ (.slice (some ⟨g, 0, none⟩) n cap) rfl (by kernel_rfl) (by kernel_rfl) (by kernel_rfl) (by kernel_rfl) (by kernel_rfl) hS0 (Or.inl ⟨by rfl, by (intro X hX; have := hX.1; go_simp)⟩) ?_
  simp only [Act.put, List.setIfInBounds_toArray, List.set_cons_zero, List.set_cons_succ]
  refine Ht.takeS 10 (i := 20) ⟨some 52, _, _, _, _, _⟩ (.int .i64 ((j : Nat) : Int)) rfl (by kernel_rfl) (by kernel_rfl) (by kernel_rfl) (by kernel_rfl) (by kernel_rfl) hS0 (Or.inl ⟨by rfl, by (intro X hX; go_simp)⟩) ?_
  simp only [Act.put, List.setIfInBounds_toArray, List.set_cons_zero, List.set_cons_succ]
  refine Ht.takeS 10 (i := 21) ⟨some 53, _, _, _, _, _⟩ (.pointer (some ⟨g, j * 2, none⟩)) rfl (by kernel_rfl) (by kernel_rfl) (by kernel_rfl) (by kernel_rfl) (by kernel_rfl) hS0 (Or.inl ⟨by rfl, by (intro X hX; go_simp)⟩) ?_
  simp only [Act.put, List.setIfInBounds_toArray, List.set_cons_zero, List.set_cons_succ]
  refine Ht.takeS 10 (i := 22) ⟨some 54, _, _, _, _, _⟩ (.pointer (some ⟨g, j * 2, none⟩)) rfl (by kernel_rfl) (by kernel_rfl) (by kernel_rfl) (by kernel_rfl) (by kernel_rfl) hS0 (Or.inl ⟨by rfl, by (intro X hX; go_simp)⟩) ?_
  simp only [Act.put, List.setIfInBounds_toArray, List.set_cons_zero, List.set_cons_succ]
  refine Ht.takeS 10 (i := 23) ⟨some 55, _, _, _, _, _⟩ ((.string ⟨c2.toArray⟩)) rfl (by kernel_rfl) (by kernel_rfl) (by kernel_rfl) (by kernel_rfl) (by kernel_rfl) hS0 (Or.inl ⟨by rfl, by (intro X hX; have := hX.2.2.2; go_simp)⟩) ?_
  simp only [Act.put, List.setIfInBounds_toArray, List.set_cons_zero, List.set_cons_succ]
  refine Ht.stepS (i := 26) ⟨some 58, _, _, _, _, _⟩ rfl (by kernel_rfl) (by rfl) (fun K hK => ?_)
  go_simp
  refine hK _ _ (fun hn => absurd (by decide) hn) (fun hnx => ?_)
  clear hK K hnx
  try simp only [Act.put, List.setIfInBounds_toArray, List.set_cons_zero, List.set_cons_succ]
  refine Ht.stepS (i := 27) ⟨some 59, _, _, _, _, _⟩ rfl (by kernel_rfl) (by rfl) (fun K hK => ?_)
  go_simp
  refine hK _ _ (fun hn => absurd (by decide) hn) (fun hnx => ?_)
  clear hK K hnx
  try simp only [Act.put, List.setIfInBounds_toArray, List.set_cons_zero, List.set_cons_succ]
  refine Ht.stepS (i := 28) ⟨none, _, _, _, _, _⟩ rfl (by kernel_rfl) (by rfl) (fun K hK => ?_)
  go_simp
  refine hK _ _ (fun hn => absurd (by decide) hn) (fun hnx => ?_)
  clear hK K hnx
  try simp only [Act.put, List.setIfInBounds_toArray, List.set_cons_zero, List.set_cons_succ]
  refine Ht.stepS (i := 29) ⟨some 60, _, _, _, _, _⟩ rfl (by kernel_rfl) (by rfl) (fun K hK => ?_)
  go_simp
  refine hK _ _ (fun hn => absurd (by decide) hn) (fun hnx => ?_)
  clear hK K hnx
  try simp only [Act.put, List.setIfInBounds_toArray, List.set_cons_zero, List.set_cons_succ]
  refine Ht.stepS (i := 30) ⟨some 61, _, _, _, _, _⟩ rfl (by kernel_rfl) (by rfl) (fun K hK => ?_)
  go_simp
  refine hK _ _ (fun hn => absurd (by decide) hn) (fun hnx => ?_)
  clear hK K hnx
  try simp only [Act.put, List.setIfInBounds_toArray, List.set_cons_zero, List.set_cons_succ]
  refine Ht.stepS (i := 31) ⟨none, _, _, _, _, _⟩ rfl (by kernel_rfl) (by rfl) (fun K hK => ?_)
  go_simp
  refine hK _ _ (fun hn => absurd (by decide) hn) (fun hnx => ?_)
  clear hK K hnx
  try simp only [Act.put, List.setIfInBounds_toArray, List.set_cons_zero, List.set_cons_succ]
  refine doneS (by kernel_rfl) ?_
  go_wp2_with fail
  go_end0
  obtain ⟨h, hB, hM, hSg, hSb, hgb, hbb, hgm⟩ := HH.out
  obtain ⟨hpl, hBV, hgr, hobj, hg2, hM3, hg3⟩ := HV.out
  have gg : V3.heap[g]? = V.heap[g]? := (hg3.block g (Nat.lt_of_lt_of_le hBV.lt hg2.size) (fun e => hgm (Option.some.inj e))).trans (hg2.block g hBV.lt (fun e => hgm (Option.some.inj e)))
  have hbs : hb < V.heap.size := Nat.lt_of_lt_of_le (h.size hb h.own) hgr.size
  have gh : V3.heap[hb]? = V.heap[hb]? := (hg3.block hb (Nat.lt_of_lt_of_le hbs hg2.size) (fun e => hbb (Option.some.inj e).symm)).trans (hg2.block hb hbs (fun e => hbb (Option.some.inj e).symm))
  rw [← mf_upd, ← mf_upd] at hM3
  have hfr : Fr S w V3 := ((Fr.grown hgr (.inl hSg)).trans (Fr.grown (S := S) (w := V) (w' := V2) ⟨hg2.os, hg2.tape, hg2.output, hg2.size, hg2.block⟩ (.inl hSb)) (fun x hx => .inl hx)).trans (Fr.grown (S := S) hg3 (.inl hSb)) (fun x hx => .inl hx)
  refine ⟨rfl, ⟨_, ⟨(gh.trans hobj).trans h.obj, .inr ⟨g, cap, by rw [len_sw], hBV.kept gg⟩, .inr ⟨b, rfl, by rw [len_sw]; exact hM3⟩, hpl, fun x hx => h.keys x ((sw_perm l HL.out.2.2.2.2.2.1 HL.out.2.2.2.2.2.2.1).mem_iff.1 hx), h.own, h.ownI, h.ownM, fun k hk => Nat.lt_of_lt_of_le (h.size k hk) hfr.size⟩⟩, hfr⟩

end
end Go.Proofs.Ytomkefaakgodhaa.HpE

