
/- wheels: slots -/
import Derived.Test.YtcafiehlhdoibaaWh3
import Derived.Deep.QuietTactic
import Derived.BigQuiet
import Derived.WalkSpells
namespace Go.Proofs.Ytcafiehlhdoibaa.Wh
open Go.RowKit Go.Lib Go.Sort Go.Maps Hp Ht
set_option linter.unusedVariables false
set_option maxRecDepth 20000
section
variable {S : Nat → Prop} {w : World} {wb ab : Nat} {sv : Nat → Option Nat} {now : Int} {most n : Nat} {f h : K → Option Int}
theorem slotOf_any (q : Wq S w wb ab sv now most n f h) {t : Int} (ht : Tk t) : Calls Try.prog 31 #[.pointer (some ⟨wb, 0, none⟩), .int .i64 t] w fun e w' => e = .returned (.pointer (some ⟨wb, 3 + pc now t, none⟩)) ∧ ∃ m, w' = w.drewN m := by
  have hn := q.tick
  have hc := q.cell.1
  have hl1 := ht.lt
  have hl2 := hn.lt
  obtain ⟨tn, rfl⟩ : ∃ x : Nat, t = x := ⟨t.toNat, by have := ht.1; omega⟩
  obtain ⟨nn, rfl⟩ : ∃ x : Nat, now = x := ⟨now.toNat, by have := hn.1; omega⟩
  rw [Int.toNat_natCast] at hl1 hl2
  unfold pc
  rw [Int.toNat_natCast, Int.toNat_natCast]
  unfold pn
  clear q hn ht
  by_cases h1 : tn ≤ nn
  · rw [if_pos h1]
    have h2 : ((tn : Nat) : Int) ≤ ((nn : Nat) : Int) := by omega
    clear h1 hl1 hl2
    generalize ((tn : Nat) : Int) = T at *
    generalize ((nn : Nat) : Int) = N at *
    go_enter Try.func31, Try.ntmps31
    go_wp2_with fail
    go_ret
    exact ⟨by simp, 0, rfl⟩
  · rw [if_neg h1]
    have h2 : ((nn : Nat) : Int) < ((tn : Nat) : Int) := by omega
    have hL := fun W => level_any tn nn W hl1 hl2 (by omega)
    obtain ⟨_, _, h7⟩ := lv_spec (a := tn) (b := nn) (by omega) hl1 hl2
    have hD := fun W => digit_any tn (lv tn nn) W hl1 h7
    have h64 := dg_lt tn (lv tn nn)
    generalize dg tn (lv tn nn) = d at *
    generalize lv tn nn = l at *
    clear h1 hl1 hl2
    have hl0 : (0 : Int) ≤ ((l : Nat) : Int) := by omega
    have hl9 : ((l : Nat) : Int) < 7 := by omega
    have hd0 : (0 : Int) ≤ ((d : Nat) : Int) := by omega
    have hd9 : ((d : Nat) : Int) < 64 := by omega
    generalize ((tn : Nat) : Int) = T at *
    generalize ((nn : Nat) : Int) = N at *
    go_enter Try.func31, Try.ntmps31
    go_wp2_with fail
    refine (hL _).mono ?_
    rintro e w1 ⟨rfl, rfl⟩
    go_wp2_with fail
    go_quiet ((go_at_call 40; exact Calls.quiet_of_same (hD _)))
    go_wp2_with fail
    go_ret
    exact ⟨by simp, _, rfl⟩
theorem eql_map_nil (W : World) (o : Option Nat) : (binOp .eql 63 (.map o) (.map none)).run Try.prog W = .ok (.bool o.isNone) W := run_eql_map_nil W _ _ _ o Try.underlying63
set_option maxHeartbeats 1000000 in
theorem put_any (q : Wq S w wb ab sv now most n f h) (hn : n ≤ 1000000) {k : K} {t : Int} (hf : f k = some t) (hk : h k = none) : Calls Try.prog 29 #[.pointer (some ⟨wb, 0, none⟩), .agg #[ek k, er t]] w fun e w' =>
    e = .returned (.tuple #[]) ∧ ∃ S' sv', Wq S' w' wb ab sv' now most n f (upd h k t) ∧ (∀ x, S' x → S x ∨ w.heap.size ≤ x) ∧ Fr S w w' := by
  have hmix : Try.prog.follows .mixedOrders = true := by kernel_rfl
  have hql := eql_map_nil
  have hmm := @run_makeMap Try.prog
  have htk := (q.okf k t hf).2
  obtain ⟨V0, hV0⟩ : ∃ V, V = w.alloc (.cells #[ek k, er t] 42) := ⟨_, rfl⟩
  have hb0 : Below w.heap.size w V0 := by rw [hV0]; exact (Below.refl _ w).alloc (Nat.le_refl _) _
  have q0 := q.below hb0
  have o0 : V0.heap[w.heap.size]? = some (.cells #[ek k, er t] 42 (0, 0)) := by rw [hV0]; exact (MapKept.heap_alloc w _).1
  have z0 : V0.heap.size = w.heap.size + 1 := by rw [hV0]; simp
  have c01 : V0.cell? ⟨w.heap.size, 1, none⟩ = some (er t) := by rw [cell_of_row _ _ _ _ _ _ o0]; rfl
  have hSl := slotOf_any q0 htk
  have HH := Lib.hid (And.intro q (And.intro hn (And.intro hf (And.intro hk (And.intro q0 (And.intro o0 (And.intro z0 hb0)))))))
  have hwl := q.size wb q.ownW
  unfold ek er at *
  clear q hn hf hk q0 o0 z0 hb0 htk
  go_enter Try.func29, Try.ntmps29
  go_wp2_with fail
  rw [← hV0]
  clear hV0
  refine hSl.mono ?_
  rintro e w1 ⟨rfl, dn, rfl⟩
  obtain ⟨q, hn, hf, hk, q0, o0, z0, hb0⟩ := HH.out
  clear hSl HH
  obtain ⟨V1, hV1⟩ : ∃ V, V = V0.drewN dn := ⟨_, rfl⟩
  have q1 : Wq S V1 wb ab sv now most n f h := by rw [hV1]; exact q0.kept (Nat.le_refl _) (fun _ _ => rfl)
  have o1 : V1.heap[w.heap.size]? = some (.cells #[ek k, er t] 42 (0, 0)) := by rw [hV1]; exact o0
  have hf1 : Fr S w V1 := by rw [hV1]; exact Fr.of_below ⟨hb0.os, hb0.tape, hb0.output, hb0.size, hb0.block⟩
  have z1 : V1.heap.size = w.heap.size + 1 := by rw [hV1]; exact z0
  rw [← hV1]
  clear hV1 q0 o0 z0 hb0 c01
  have hs8 : pc now t < 449 := q.lt_pc (q.okf k t hf).2
  have cs0 := (q1.cell.2.2.2 _ hs8)
  cases hsv : sv (pc now t) with
  | some b =>
    rw [hsv] at cs0
    obtain ⟨V, hV⟩ : ∃ V, V = V1 := ⟨_, rfl⟩
    have qV : Wq S V wb ab sv now most n f h := by rw [hV]; exact q1
    have hfV : Fr S w V := by rw [hV]; exact hf1
    have cb1 : V.cell? ⟨w.heap.size, 0, none⟩ = some (ek k) := by rw [hV, cell_of_row _ _ _ _ _ _ o1]; rfl
    have cb2 : V.cell? ⟨w.heap.size, 1, none⟩ = some (er t) := by rw [hV, cell_of_row _ _ _ _ _ _ o1]; rfl
    have hs9 : pc now t < 449 := q.lt_pc (q.okf k t hf).2
    have hsb : sv (pc now t) = some b := by exact hsv
    obtain ⟨m, hm⟩ := qV.slot_some hs9 hsb
    have hmn : m ≤ n := by
      obtain ⟨l, hl1, hl2⟩ := q.cnt
      rw [← hl2]
      exact mq_le hm (fun k t e => q.sub k t (gs_some.1 e).1) hl1
    have hmd : Mq V.drew b m (gs now h (pc now t)) := hm.kept rfl
    obtain ⟨V3, run3, hM3, hg3⟩ := hmd.put kindS (by unfold maxLen; omega) (q.okf k t hf).1 (wf_tk (q.okf k t hf).2)
    have cs1 := (qV.cell.2.2.2 _ hs9)
    rw [show sv (pc now t) = some b from hsb] at cs1
    have hfin : Wq S V3 wb ab sv now most n f (upd h k t) := by
      have hg4 : V.grownBy V3 (some b) := ⟨hg3.os, hg3.tape, hg3.output, hg3.size, hg3.block⟩
      refine qV.setSlot hs9 hsb (by rw [gs_put hk, if_pos rfl]; exact hM3) hg4 (fun s' _ hne => by rw [gs_put hk, if_neg hne]) (fun k' t' e => ?_)
      rcases upd_some.1 e with ⟨e1, e2⟩ | ⟨_, e1⟩
      · rw [e1, ← e2]; exact hf
      · exact q.sub k' t' e1
    have hfr3 : Fr S w V3 := hfV.trans (Fr.grown ⟨hg3.os, hg3.tape, hg3.output, hg3.size, hg3.block⟩ (S := S) (.inl (qV.ownS _ b hs9 hsb))) (fun x hx => .inl hx)
    unfold ek er at *
    have HR := Lib.hid run3
    have HX := Lib.hid (And.intro hfin hfr3)
    clear hfin hfr3 run3 hM3 hg3 hmd hm hmn qV hfV hsv hsb q hn hf hk q1 o1 hf1 hs9 hs8 z1
    rw [← hV]
    rw [← hV] at cs0
    clear hV V1
    go_wp2_with fail
    refine begin' 99 (fun _ => True) hmix trivial (fun _ => ?_)
    refine later [7] (fun X => X.cell? ⟨wb, 3 + pc now t, none⟩ = some (.map (some b)) ∧ X.cell? ⟨w.heap.size, 0, none⟩ = some (.string ⟨k.toArray⟩) ∧ X.cell? ⟨w.heap.size, 1, none⟩ = some (.int .i64 t)) (⟨cs1, cb1, cb2⟩) (fun hS0 => ?_)
    refine Ht.takeS 10 (i := 0) ⟨some 16, _, _, _, _, _⟩ (.pointer (some ⟨wb, 3 + pc now t, none⟩)) rfl (by kernel_rfl) (by kernel_rfl) (by kernel_rfl) (by kernel_rfl) (by kernel_rfl) hS0 (Or.inl ⟨by rfl, by (intro X hX; go_simp)⟩) ?_
    simp only [Act.put, List.setIfInBounds_toArray, List.set_cons_zero, List.set_cons_succ]
    refine Ht.takeS 10 (i := 1) ⟨some 17, _, _, _, _, _⟩ (.pointer (some ⟨wb, 3 + pc now t, none⟩)) rfl (by kernel_rfl) (by kernel_rfl) (by kernel_rfl) (by kernel_rfl) (by kernel_rfl) hS0 (Or.inl ⟨by rfl, by (intro X hX; have := hX.1; go_simp)⟩) ?_
    simp only [Act.put, List.setIfInBounds_toArray, List.set_cons_zero, List.set_cons_succ]
    refine Ht.takeS 10 (i := 2) ⟨some 18, _, _, _, _, _⟩ (.map (some b)) rfl (by kernel_rfl) (by kernel_rfl) (by kernel_rfl) (by kernel_rfl) (by kernel_rfl) hS0 (Or.inl ⟨by rfl, by (intro X hX; have := hX.1; go_simp)⟩) ?_
    simp only [Act.put, List.setIfInBounds_toArray, List.set_cons_zero, List.set_cons_succ]
    refine Ht.takeS 10 (i := 3) ⟨some 19, _, _, _, _, _⟩ (.pointer (some ⟨w.heap.size, 0, none⟩)) rfl (by kernel_rfl) (by kernel_rfl) (by kernel_rfl) (by kernel_rfl) (by kernel_rfl) hS0 (Or.inl ⟨by rfl, by (intro X hX; go_simp)⟩) ?_
    simp only [Act.put, List.setIfInBounds_toArray, List.set_cons_zero, List.set_cons_succ]
    refine Ht.takeS 10 (i := 4) ⟨some 20, _, _, _, _, _⟩ (.string ⟨k.toArray⟩) rfl (by kernel_rfl) (by kernel_rfl) (by kernel_rfl) (by kernel_rfl) (by kernel_rfl) hS0 (Or.inl ⟨by rfl, by (intro X hX; have := hX.2.1; go_simp)⟩) ?_
    simp only [Act.put, List.setIfInBounds_toArray, List.set_cons_zero, List.set_cons_succ]
    refine Ht.takeS 10 (i := 5) ⟨some 21, _, _, _, _, _⟩ (.pointer (some ⟨w.heap.size, 1, none⟩)) rfl (by kernel_rfl) (by kernel_rfl) (by kernel_rfl) (by kernel_rfl) (by kernel_rfl) hS0 (Or.inl ⟨by rfl, by (intro X hX; go_simp)⟩) ?_
    simp only [Act.put, List.setIfInBounds_toArray, List.set_cons_zero, List.set_cons_succ]
    refine Ht.takeS 10 (i := 6) ⟨some 22, _, _, _, _, _⟩ (.int .i64 t) rfl (by kernel_rfl) (by kernel_rfl) (by kernel_rfl) (by kernel_rfl) (by kernel_rfl) hS0 (Or.inl ⟨by rfl, by (intro X hX; have := hX.2.2; go_simp)⟩) ?_
    simp only [Act.put, List.setIfInBounds_toArray, List.set_cons_zero, List.set_cons_succ]
    refine Ht.stepS (i := 7) ⟨none, _, _, _, _, _⟩ rfl (by kernel_rfl) (by rfl) (fun K hK => ?_)
    have run3 := HR.out
    go_simp
    refine hK _ _ (fun hn => absurd (by decide) hn) (fun hnx => ?_)
    clear hK K hnx
    try simp only [Act.put, List.setIfInBounds_toArray, List.set_cons_zero, List.set_cons_succ]
    refine doneS (by kernel_rfl) ?_
    go_wp2_with fail
    go_end0
    exact ⟨rfl, S, sv, HX.out.1, fun x hx => .inl hx, HX.out.2⟩
  | none =>
    rw [hsv] at cs0
    obtain ⟨V, hV⟩ : ∃ V, V = (V1.setCell ⟨wb, 3 + pc now t, none⟩ (.map (some V1.heap.size))).alloc (.map #[] 0) := ⟨_, rfl⟩
    obtain ⟨qV, hfV'⟩ := q1.make hs8 hsv hV
    have hfV : Fr S w V := hf1.trans hfV' fun x hx => .inl hx
    obtain ⟨b, hb⟩ : ∃ b, b = V1.heap.size := ⟨_, rfl⟩
    rw [← hb] at qV
    have oV : V.heap[w.heap.size]? = some (.cells #[ek k, er t] 42 (0, 0)) := by
      rw [hV]
      exact ((MapKept.heap_alloc _ _).2 _ (by simp; omega)).trans ((heap_setCell_other _ _ _ _ (by show w.heap.size ≠ wb; omega)).trans o1)
    have cb1 : V.cell? ⟨w.heap.size, 0, none⟩ = some (ek k) := by rw [cell_of_row _ _ _ _ _ _ oV]; rfl
    have cb2 : V.cell? ⟨w.heap.size, 1, none⟩ = some (er t) := by rw [cell_of_row _ _ _ _ _ _ oV]; rfl
    have fz := q1.frozen (3 + pc now t)
    have hs9 : pc now t < 449 := q.lt_pc (q.okf k t hf).2
    have hsb : (fun i => if i = pc now t then some b else sv i) (pc now t) = some b := by simp
    obtain ⟨m, hm⟩ := qV.slot_some hs9 hsb
    have hmn : m ≤ n := by
      obtain ⟨l, hl1, hl2⟩ := q.cnt
      rw [← hl2]
      exact mq_le hm (fun k t e => q.sub k t (gs_some.1 e).1) hl1
    have hmd : Mq V.drew b m (gs now h (pc now t)) := hm.kept rfl
    obtain ⟨V3, run3, hM3, hg3⟩ := hmd.put kindS (by unfold maxLen; omega) (q.okf k t hf).1 (wf_tk (q.okf k t hf).2)
    have cs1 := (qV.cell.2.2.2 _ hs9)
    rw [show (if pc now t = pc now t then some b else sv (pc now t)) = some b from hsb] at cs1
    have hfin : Wq (fun x => S x ∨ x = b) V3 wb ab (fun i => if i = pc now t then some b else sv i) now most n f (upd h k t) := by
      have hg4 : V.grownBy V3 (some b) := ⟨hg3.os, hg3.tape, hg3.output, hg3.size, hg3.block⟩
      refine qV.setSlot hs9 hsb (by rw [gs_put hk, if_pos rfl]; exact hM3) hg4 (fun s' _ hne => by rw [gs_put hk, if_neg hne]) (fun k' t' e => ?_)
      rcases upd_some.1 e with ⟨e1, e2⟩ | ⟨_, e1⟩
      · rw [e1, ← e2]; exact hf
      · exact q.sub k' t' e1
    have hfr3 : Fr S w V3 := hfV.trans (Fr.grown ⟨hg3.os, hg3.tape, hg3.output, hg3.size, hg3.block⟩ (S := (fun x => S x ∨ x = b)) (.inl (qV.ownS _ b hs9 hsb))) (fun x hx => hx.imp_right fun e => by omega)
    unfold ek er at *
    have HR := Lib.hid run3
    have HX := Lib.hid (And.intro hfin (And.intro hfr3 (And.intro hb z1)))
    have hw1 : wb < V1.heap.size := by omega
    clear hfin hfr3 run3 hM3 hg3 hmd hm hmn qV hfV hsv hsb q hn hf hk q1 o1 hf1 hs9 hs8 oV hfV' z1
    go_wp2_with fail
    rw [← hV]
    clear hV cs0 fz
    rw [← hb]
    clear hb
    refine begin' 99 (fun _ => True) hmix trivial (fun _ => ?_)
    refine later [7] (fun X => X.cell? ⟨wb, 3 + pc now t, none⟩ = some (.map (some b)) ∧ X.cell? ⟨w.heap.size, 0, none⟩ = some (.string ⟨k.toArray⟩) ∧ X.cell? ⟨w.heap.size, 1, none⟩ = some (.int .i64 t)) (⟨cs1, cb1, cb2⟩) (fun hS0 => ?_)
    refine Ht.takeS 10 (i := 0) ⟨some 16, _, _, _, _, _⟩ (.pointer (some ⟨wb, 3 + pc now t, none⟩)) rfl (by kernel_rfl) (by kernel_rfl) (by kernel_rfl) (by kernel_rfl) (by kernel_rfl) hS0 (Or.inl ⟨by rfl, by (intro X hX; go_simp)⟩) ?_
    simp only [Act.put, List.setIfInBounds_toArray, List.set_cons_zero, List.set_cons_succ]
    refine Ht.takeS 10 (i := 1) ⟨some 17, _, _, _, _, _⟩ (.pointer (some ⟨wb, 3 + pc now t, none⟩)) rfl (by kernel_rfl) (by kernel_rfl) (by kernel_rfl) (by kernel_rfl) (by kernel_rfl) hS0 (Or.inl ⟨by rfl, by (intro X hX; have := hX.1; go_simp)⟩) ?_
    simp only [Act.put, List.setIfInBounds_toArray, List.set_cons_zero, List.set_cons_succ]
    refine Ht.takeS 10 (i := 2) ⟨some 18, _, _, _, _, _⟩ (.map (some b)) rfl (by kernel_rfl) (by kernel_rfl) (by kernel_rfl) (by kernel_rfl) (by kernel_rfl) hS0 (Or.inl ⟨by rfl, by (intro X hX; have := hX.1; go_simp)⟩) ?_
    simp only [Act.put, List.setIfInBounds_toArray, List.set_cons_zero, List.set_cons_succ]
    refine Ht.takeS 10 (i := 3) ⟨some 19, _, _, _, _, _⟩ (.pointer (some ⟨w.heap.size, 0, none⟩)) rfl (by kernel_rfl) (by kernel_rfl) (by kernel_rfl) (by kernel_rfl) (by kernel_rfl) hS0 (Or.inl ⟨by rfl, by (intro X hX; go_simp)⟩) ?_
    simp only [Act.put, List.setIfInBounds_toArray, List.set_cons_zero, List.set_cons_succ]
    refine Ht.takeS 10 (i := 4) ⟨some 20, _, _, _, _, _⟩ (.string ⟨k.toArray⟩) rfl (by kernel_rfl) (by kernel_rfl) (by kernel_rfl) (by kernel_rfl) (by kernel_rfl) hS0 (Or.inl ⟨by rfl, by (intro X hX; have := hX.2.1; go_simp)⟩) ?_
    simp only [Act.put, List.setIfInBounds_toArray, List.set_cons_zero, List.set_cons_succ]
    refine Ht.takeS 10 (i := 5) ⟨some 21, _, _, _, _, _⟩ (.pointer (some ⟨w.heap.size, 1, none⟩)) rfl (by kernel_rfl) (by kernel_rfl) (by kernel_rfl) (by kernel_rfl) (by kernel_rfl) hS0 (Or.inl ⟨by rfl, by (intro X hX; go_simp)⟩) ?_
    simp only [Act.put, List.setIfInBounds_toArray, List.set_cons_zero, List.set_cons_succ]
    refine Ht.takeS 10 (i := 6) ⟨some 22, _, _, _, _, _⟩ (.int .i64 t) rfl (by kernel_rfl) (by kernel_rfl) (by kernel_rfl) (by kernel_rfl) (by kernel_rfl) hS0 (Or.inl ⟨by rfl, by (intro X hX; have := hX.2.2; go_simp)⟩) ?_
    simp only [Act.put, List.setIfInBounds_toArray, List.set_cons_zero, List.set_cons_succ]
    refine Ht.stepS (i := 7) ⟨none, _, _, _, _, _⟩ rfl (by kernel_rfl) (by rfl) (fun K hK => ?_)
    have run3 := HR.out
    go_simp
    refine hK _ _ (fun hn => absurd (by decide) hn) (fun hnx => ?_)
    clear hK K hnx
    try simp only [Act.put, List.setIfInBounds_toArray, List.set_cons_zero, List.set_cons_succ]
    refine doneS (by kernel_rfl) ?_
    go_wp2_with fail
    go_end0
    obtain ⟨h1, h2, h3, h4⟩ := HX.out
    exact ⟨rfl, _, _, h1, fun x hx => hx.imp_right fun e => by omega, h2⟩
end
end Go.Proofs.Ytcafiehlhdoibaa.Wh
