/- wheels: ticks, levels, digits, slots -/
import Derived.Test.YtcodjknhnhdkfaaGreatDoorBr15
import Derived.Test.YtcodjknhnhdkfaaGreatDoorWhLib
import Derived.IntWalk
import Derived.Lib.Hide
import Derived.Deep.QuietTactic
import Derived.BigQuiet
import Derived.WalkSpells
import Derived.Sort.Grow
import Derived.Shelf.Abstract
import Derived.Lib.OwnBridge
import Derived.Deep.MidRow
namespace Go.Proofs.YtcodjknhnhdkfaaGreatDoor.Wh
open Go.RowKit Go.Lib Go.Sort Go.Maps Hp Ht
set_option linter.unusedVariables false
set_option maxRecDepth 20000

/-- a number that may be -/
def I64 (x : Int) : Prop := -9223372036854775808 ≤ x ∧ x ≤ 9223372036854775807
theorem isTick_any (t : Int) (w : World) : Calls Tryz.prog 50 #[.int .i64 t] w fun e w' => e = .returned (.bool (decide (0 ≤ t) && decide (t ≤ MT))) ∧ w' = w := by
  unfold MT
  by_cases h1 : 0 ≤ t
  · by_cases h2 : t ≤ 1099511627776
    · go_enter Tryz.func50, Tryz.ntmps50
      go_wp2_with fail
      go_ret
      exact ⟨by simp; omega, rfl⟩
    · go_enter Tryz.func50, Tryz.ntmps50
      go_wp2_with fail
      go_ret
      exact ⟨by simp; omega, rfl⟩
  · go_enter Tryz.func50, Tryz.ntmps50
    go_wp2_with fail
    go_ret
    exact ⟨by simp; omega, rfl⟩
theorem xor64 (a b : Nat) (ha : a < 2 ^ 42) (hb : b < 2 ^ 42) : Go.bits .xor .i64 (a : Int) (b : Int) = ((a ^^^ b : Nat) : Int) := by
  have hx : a ^^^ b < 2 ^ 42 := Nat.xor_lt_two_pow ha hb
  show IntKind.i64.wrap ((BitVec.ofInt 64 (a : Int) ^^^ BitVec.ofInt 64 (b : Int)).toNat : Int) = _
  have h64 : (2 : Nat) ^ 42 < 2 ^ 64 := by decide
  have e : ∀ x : Nat, x < 2 ^ 42 → (BitVec.ofInt 64 (x : Int)).toNat = x := fun x hx => by
    rw [BitVec.ofInt_natCast, BitVec.toNat_ofNat]
    exact Nat.mod_eq_of_lt (Nat.lt_trans hx h64)
  rw [BitVec.toNat_xor, e a ha, e b hb]
  obtain ⟨X, hX⟩ : ∃ X : Nat, X = a ^^^ b := ⟨_, rfl⟩
  rw [← hX] at hx ⊢
  rw [IntWalk.i64_in] <;> omega
theorem level_any (a b : Nat) (w : World) (ha : a < 2 ^ 42) (hb : b < 2 ^ 42) (hne : a ≠ b) : Calls Tryz.prog 132 #[.int .i64 ((a : Nat) : Int), .int .i64 ((b : Nat) : Int)] w fun e w' => e = .returned (.int .i64 ((lv a b : Nat) : Int)) ∧ w' = w := by
  have hx := xor64 a b ha hb
  have hx2 : a ^^^ b < 2 ^ 42 := Nat.xor_lt_two_pow ha hb
  have hx0 : a ^^^ b ≠ 0 := fun e => hne ((xor_zero_iff _ _).1 e)
  obtain ⟨h1, h2, h3, h4⟩ := bl_spec hx0 hx2
  have hl : lv a b = (Lib.bitLen (a ^^^ b) - 1) / 6 := rfl
  have hB := Tryz.bits_Len64 (((a ^^^ b : Nat) : Int)) w (by omega) (by omega)
  rw [Int.toNat_natCast] at hB
  rw [hl]
  obtain ⟨X, hX⟩ : ∃ X : Nat, X = a ^^^ b := ⟨_, rfl⟩
  obtain ⟨L, hL⟩ : ∃ L : Nat, L = Lib.bitLen (a ^^^ b) := ⟨_, rfl⟩
  rw [← hX] at hx hx2 hB
  rw [← hL] at h1 h4 ⊢
  have hL' : Lib.bitLen X = L := by rw [hL, hX]
  rw [hL'] at hB
  clear hX hL hL' h2 h3 hx0 hl
  obtain ⟨M, rfl⟩ : ∃ M, L = M + 1 := ⟨L - 1, by omega⟩
  have hq : ((M : Nat) : Int).tdiv 6 = (((M + 1 - 1) / 6 : Nat) : Int) := by rw [Int.tdiv_eq_ediv_of_nonneg (by omega)]; omega
  have hb2 : (M + 1 - 1) / 6 ≤ 7 := by omega
  have hX4 : ((X : Nat) : Int) ≤ 4398046511103 := by omega
  have hM4 : ((M : Nat) : Int) ≤ 41 := by omega
  obtain ⟨Q, hQ⟩ : ∃ Q : Nat, Q = (M + 1 - 1) / 6 := ⟨_, rfl⟩
  rw [← hQ] at hq hb2 ⊢
  have hQ4 : ((Q : Nat) : Int) ≤ 7 := by omega
  have hw : wrap64 ((M + 1 : Nat) - 1 : Int) = ((M : Nat) : Int) := by unfold wrap64; omega
  have hu : IntKind.u64.wrap ((X : Nat) : Int) = ((X : Nat) : Int) := IntWalk.u64_in _ (by omega)
  have hQ5 : wrap64 ((Q : Nat) : Int) = ((Q : Nat) : Int) := by unfold wrap64; omega
  clear hQ hb2 hx2 ha hb hne h1 h4
  generalize ((M + 1 : Nat) : Int) = L1 at *
  generalize ((M : Nat) : Int) = M1 at *
  generalize ((Q : Nat) : Int) = Q1 at *
  generalize ((X : Nat) : Int) = X1 at *
  generalize ((a : Nat) : Int) = a1 at *
  generalize ((b : Nat) : Int) = b1 at *
  go_enter Tryz.func132, Tryz.ntmps132
  go_wp2_with fail
  refine hB.mono ?_
  rintro e w1 ⟨rfl, rfl⟩
  go_wp2_with fail
  go_ret
  exact ⟨by simp_all, rfl⟩
theorem digit_any (t l : Nat) (w : World) (ht : t < 2 ^ 42) (hl : l < 7) : Calls Tryz.prog 133 #[.int .i64 ((t : Nat) : Int), .int .i64 ((l : Nat) : Int)] w fun e w' => e = .returned (.int .i64 ((dg t l : Nat) : Int)) ∧ w' = w := by
  have e1 : ((t : Nat) : Int) / 2 ^ (((l : Nat) : Int) * 6).toNat = ((t / 64 ^ l : Nat) : Int) := by
    rw [pow64]
    have : (((l : Nat) : Int) * 6).toNat = 6 * l := by omega
    rw [this]
    norm_cast
  have e2 : ((t / 64 ^ l : Nat) : Int).tmod 64 = ((dg t l : Nat) : Int) := by
    unfold dg
    generalize t / 64 ^ l = X
    rw [Int.tmod_eq_emod_of_nonneg (by omega)]; omega
  have e3 : t / 64 ^ l ≤ t := Nat.div_le_self _ _
  have e4 := dg_lt t l
  have hw3 : wrap64 ((dg t l : Nat) : Int) = ((dg t l : Nat) : Int) := by unfold wrap64; omega
  have HH := Lib.hid (And.intro e2 e3)
  obtain ⟨X, hX⟩ : ∃ X : Nat, X = t / 64 ^ l := ⟨_, rfl⟩
  rw [← hX] at e1 e2 e3
  obtain ⟨D, hD⟩ : ∃ D : Nat, D = dg t l := ⟨_, rfl⟩
  rw [← hD] at e2 e4 hw3 ⊢
  clear hX hD HH
  have hw4 : IntKind.i64.wrap ((X : Nat) : Int) = ((X : Nat) : Int) := by rw [IntWalk.i64_in] <;> omega
  go_enter Tryz.func133, Tryz.ntmps133
  go_wp2_with fail
  go_ret
  exact ⟨by simp_all, rfl⟩
end Go.Proofs.YtcodjknhnhdkfaaGreatDoor.Wh
namespace Go.Proofs.YtcodjknhnhdkfaaGreatDoor.Wh
open Go.RowKit Go.Lib Go.Sort Go.Maps Hp Ht
set_option linter.unusedVariables false
set_option maxRecDepth 20000
section
variable {S : Nat → Prop} {w : World} {wb ab : Nat} {sv : Nat → Option Nat} {now : Int} {most n : Nat} {f h : K → Option Int}
theorem slotOf_any (q : Wq S w wb ab sv now most n f h) {t : Int} (ht : Tk t) : Calls Tryz.prog 108 #[.pointer (some ⟨wb, 0, none⟩), .int .i64 t] w fun e w' => e = .returned (.pointer (some ⟨wb, 3 + pc now t, none⟩)) ∧ ∃ m, w' = w.drewN m := by
  have hn := q.tick
  have hc := q.cell.1
  have hl1 := ht.lt
  have hl2 := hn.lt
  obtain ⟨tn, rfl⟩ : ∃ x : Nat, t = x := ⟨t.toNat, by have := ht.1; omega⟩
  obtain ⟨nn, rfl⟩ : ∃ x : Nat, now = x := ⟨now.toNat, by have := hn.1; omega⟩
  rw [Int.toNat_natCast] at hl1 hl2
  unfold pc
  rw [Int.toNat_natCast, Int.toNat_natCast]
  unfold pn
  clear q hn ht
  by_cases h1 : tn ≤ nn
  · rw [if_pos h1]
    have h2 : ((tn : Nat) : Int) ≤ ((nn : Nat) : Int) := by omega
    clear h1 hl1 hl2
    generalize ((tn : Nat) : Int) = T at *
    generalize ((nn : Nat) : Int) = N at *
    go_enter Tryz.func108, Tryz.ntmps108
    go_wp2_with fail
    go_ret
    exact ⟨by simp, 0, rfl⟩
  · rw [if_neg h1]
    have h2 : ((nn : Nat) : Int) < ((tn : Nat) : Int) := by omega
    have hL := fun W => level_any tn nn W hl1 hl2 (by omega)
    obtain ⟨_, _, h7⟩ := lv_spec (a := tn) (b := nn) (by omega) hl1 hl2
    have hD := fun W => digit_any tn (lv tn nn) W hl1 h7
    have h64 := dg_lt tn (lv tn nn)
    generalize dg tn (lv tn nn) = d at *
    generalize lv tn nn = l at *
    clear h1 hl1 hl2
    have hl0 : (0 : Int) ≤ ((l : Nat) : Int) := by omega
    have hl9 : ((l : Nat) : Int) < 7 := by omega
    have hd0 : (0 : Int) ≤ ((d : Nat) : Int) := by omega
    have hd9 : ((d : Nat) : Int) < 64 := by omega
    generalize ((tn : Nat) : Int) = T at *
    generalize ((nn : Nat) : Int) = N at *
    go_enter Tryz.func108, Tryz.ntmps108
    go_wp2_with fail
    refine (hL _).mono ?_
    rintro e w1 ⟨rfl, rfl⟩
    go_wp2_with fail
    go_quiet ((go_at_call 133; exact Calls.quiet_of_same (hD _)))
    go_wp2_with fail
    go_ret
    exact ⟨by simp, _, rfl⟩
theorem eql_map_nil (W : World) (o : Option Nat) : (binOp .eql 95 (.map o) (.map none)).run Tryz.prog W = .ok (.bool o.isNone) W := run_eql_map_nil W _ _ _ o Tryz.underlying95
set_option maxHeartbeats 1000000 in
theorem put_any (q : Wq S w wb ab sv now most n f h) (hn : n ≤ 1000000) {k : K} {t : Int} (hf : f k = some t) (hk : h k = none) : Calls Tryz.prog 91 #[.pointer (some ⟨wb, 0, none⟩), .agg #[ek k, er t]] w fun e w' =>
    e = .returned (.tuple #[]) ∧ ∃ S' sv', Wq S' w' wb ab sv' now most n f (upd h k t) ∧ (∀ x, S' x → S x ∨ w.heap.size ≤ x) ∧ Fr S w w' := by
  have hmix : Tryz.prog.follows .mixedOrders = true := by kernel_rfl
  have hql := eql_map_nil
  have hmm := @run_makeMap Tryz.prog
  have htk := (q.okf k t hf).2
  obtain ⟨V0, hV0⟩ : ∃ V, V = w.alloc (.cells #[ek k, er t] 155) := ⟨_, rfl⟩
  have hb0 : Below w.heap.size w V0 := by rw [hV0]; exact (Below.refl _ w).alloc (Nat.le_refl _) _
  have q0 := q.below hb0
  have o0 : V0.heap[w.heap.size]? = some (.cells #[ek k, er t] 155 (0, 0)) := by rw [hV0]; exact (MapKept.heap_alloc w _).1
  have z0 : V0.heap.size = w.heap.size + 1 := by rw [hV0]; simp
  have c01 : V0.cell? ⟨w.heap.size, 1, none⟩ = some (er t) := by rw [cell_of_row _ _ _ _ _ _ o0]; rfl
  have hSl := slotOf_any q0 htk
  have HH := Lib.hid (And.intro q (And.intro hn (And.intro hf (And.intro hk (And.intro q0 (And.intro o0 (And.intro z0 hb0)))))))
  have hwl := q.size wb q.ownW
  unfold ek er at *
  clear q hn hf hk q0 o0 z0 hb0 htk
  go_enter Tryz.func91, Tryz.ntmps91
  go_wp2_with fail
  rw [← hV0]
  clear hV0
  refine hSl.mono ?_
  rintro e w1 ⟨rfl, dn, rfl⟩
  obtain ⟨q, hn, hf, hk, q0, o0, z0, hb0⟩ := HH.out
  clear hSl HH
  obtain ⟨V1, hV1⟩ : ∃ V, V = V0.drewN dn := ⟨_, rfl⟩
  have q1 : Wq S V1 wb ab sv now most n f h := by rw [hV1]; exact q0.kept (Nat.le_refl _) (fun _ _ => rfl)
  have o1 : V1.heap[w.heap.size]? = some (.cells #[ek k, er t] 155 (0, 0)) := by rw [hV1]; exact o0
  have hf1 : Fr S w V1 := by rw [hV1]; exact Fr.of_below ⟨hb0.os, hb0.tape, hb0.output, hb0.size, hb0.block⟩
  have z1 : V1.heap.size = w.heap.size + 1 := by rw [hV1]; exact z0
  rw [← hV1]
  clear hV1 q0 o0 z0 hb0 c01
  have hs8 : pc now t < 449 := q.lt_pc (q.okf k t hf).2
  have cs0 := (q1.cell.2.2.2 _ hs8)
  cases hsv : sv (pc now t) with
  | some b =>
    rw [hsv] at cs0
    obtain ⟨V, hV⟩ : ∃ V, V = V1 := ⟨_, rfl⟩
    have qV : Wq S V wb ab sv now most n f h := by rw [hV]; exact q1
    have hfV : Fr S w V := by rw [hV]; exact hf1
    have cb1 : V.cell? ⟨w.heap.size, 0, none⟩ = some (ek k) := by rw [hV, cell_of_row _ _ _ _ _ _ o1]; rfl
    have cb2 : V.cell? ⟨w.heap.size, 1, none⟩ = some (er t) := by rw [hV, cell_of_row _ _ _ _ _ _ o1]; rfl
    have hs9 : pc now t < 449 := q.lt_pc (q.okf k t hf).2
    have hsb : sv (pc now t) = some b := by exact hsv
    obtain ⟨m, hm⟩ := qV.slot_some hs9 hsb
    have hmn : m ≤ n := by
      obtain ⟨l, hl1, hl2⟩ := q.cnt
      rw [← hl2]
      exact mq_le hm (fun k t e => q.sub k t (gs_some.1 e).1) hl1
    have hmd : Mq V.drew b m (gs now h (pc now t)) := hm.kept rfl
    obtain ⟨V3, run3, hM3, hg3⟩ := hmd.put kindS (by unfold maxLen; omega) (q.okf k t hf).1 (wf_tk (q.okf k t hf).2)
    have cs1 := (qV.cell.2.2.2 _ hs9)
    rw [show sv (pc now t) = some b from hsb] at cs1
    have hfin : Wq S V3 wb ab sv now most n f (upd h k t) := by
      have hg4 : V.grownBy V3 (some b) := ⟨hg3.os, hg3.tape, hg3.output, hg3.size, hg3.block⟩
      refine qV.setSlot hs9 hsb (by rw [gs_put hk, if_pos rfl]; exact hM3) hg4 (fun s' _ hne => by rw [gs_put hk, if_neg hne]) (fun k' t' e => ?_)
      rcases upd_some.1 e with ⟨e1, e2⟩ | ⟨_, e1⟩
      · rw [e1, ← e2]; exact hf
      · exact q.sub k' t' e1
    have hfr3 : Fr S w V3 := hfV.trans (Fr.grown ⟨hg3.os, hg3.tape, hg3.output, hg3.size, hg3.block⟩ (S := S) (.inl (qV.ownS _ b hs9 hsb))) (fun x hx => .inl hx)
    unfold ek er at *
    have HR := Lib.hid run3
    have HX := Lib.hid (And.intro hfin hfr3)
    clear hfin hfr3 run3 hM3 hg3 hmd hm hmn qV hfV hsv hsb q hn hf hk q1 o1 hf1 hs9 hs8 z1
    rw [← hV]
    rw [← hV] at cs0
    clear hV V1
    go_wp2_with fail
    refine begin' 99 (fun _ => True) hmix trivial (fun _ => ?_)
    refine later [7] (fun X => X.cell? ⟨wb, 3 + pc now t, none⟩ = some (.map (some b)) ∧ X.cell? ⟨w.heap.size, 0, none⟩ = some (.string ⟨k.toArray⟩) ∧ X.cell? ⟨w.heap.size, 1, none⟩ = some (.int .i64 t)) (⟨cs1, cb1, cb2⟩) (fun hS0 => ?_)
    refine Ht.takeS 10 (i := 0) ⟨some 16, _, _, _, _, _⟩ (.pointer (some ⟨wb, 3 + pc now t, none⟩)) rfl (by kernel_rfl) (by kernel_rfl) (by kernel_rfl) (by kernel_rfl) (by kernel_rfl) hS0 (Or.inl ⟨by rfl, by (intro X hX; go_simp)⟩) ?_
    simp only [Act.put, List.setIfInBounds_toArray, List.set_cons_zero, List.set_cons_succ]
    refine Ht.takeS 10 (i := 1) ⟨some 17, _, _, _, _, _⟩ (.pointer (some ⟨wb, 3 + pc now t, none⟩)) rfl (by kernel_rfl) (by kernel_rfl) (by kernel_rfl) (by kernel_rfl) (by kernel_rfl) hS0 (Or.inl ⟨by rfl, by (intro X hX; have := hX.1; go_simp)⟩) ?_
    simp only [Act.put, List.setIfInBounds_toArray, List.set_cons_zero, List.set_cons_succ]
    refine Ht.takeS 10 (i := 2) ⟨some 18, _, _, _, _, _⟩ (.map (some b)) rfl (by kernel_rfl) (by kernel_rfl) (by kernel_rfl) (by kernel_rfl) (by kernel_rfl) hS0 (Or.inl ⟨by rfl, by (intro X hX; have := hX.1; go_simp)⟩) ?_
    simp only [Act.put, List.setIfInBounds_toArray, List.set_cons_zero, List.set_cons_succ]
    refine Ht.takeS 10 (i := 3) ⟨some 19, _, _, _, _, _⟩ (.pointer (some ⟨w.heap.size, 0, none⟩)) rfl (by kernel_rfl) (by kernel_rfl) (by kernel_rfl) (by kernel_rfl) (by kernel_rfl) hS0 (Or.inl ⟨by rfl, by (intro X hX; go_simp)⟩) ?_
    simp only [Act.put, List.setIfInBounds_toArray, List.set_cons_zero, List.set_cons_succ]
    refine Ht.takeS 10 (i := 4) ⟨some 20, _, _, _, _, _⟩ (.string ⟨k.toArray⟩) rfl (by kernel_rfl) (by kernel_rfl) (by kernel_rfl) (by kernel_rfl) (by kernel_rfl) hS0 (Or.inl ⟨by rfl, by (intro X hX; have := hX.2.1; go_simp)⟩) ?_
    simp only [Act.put, List.setIfInBounds_toArray, List.set_cons_zero, List.set_cons_succ]
    refine Ht.takeS 10 (i := 5) ⟨some 21, _, _, _, _, _⟩ (.pointer (some ⟨w.heap.size, 1, none⟩)) rfl (by kernel_rfl) (by kernel_rfl) (by kernel_rfl) (by kernel_rfl) (by kernel_rfl) hS0 (Or.inl ⟨by rfl, by (intro X hX; go_simp)⟩) ?_
    simp only [Act.put, List.setIfInBounds_toArray, List.set_cons_zero, List.set_cons_succ]
    refine Ht.takeS 10 (i := 6) ⟨some 22, _, _, _, _, _⟩ (.int .i64 t) rfl (by kernel_rfl) (by kernel_rfl) (by kernel_rfl) (by kernel_rfl) (by kernel_rfl) hS0 (Or.inl ⟨by rfl, by (intro X hX; have := hX.2.2; go_simp)⟩) ?_
    simp only [Act.put, List.setIfInBounds_toArray, List.set_cons_zero, List.set_cons_succ]
    refine Ht.stepS (i := 7) ⟨none, _, _, _, _, _⟩ rfl (by kernel_rfl) (by rfl) (fun K hK => ?_)
    have run3 := HR.out
    go_simp
    refine hK _ _ (fun hn => absurd (by decide) hn) (fun hnx => ?_)
    clear hK K hnx
    try simp only [Act.put, List.setIfInBounds_toArray, List.set_cons_zero, List.set_cons_succ]
    refine doneS (by kernel_rfl) ?_
    go_wp2_with fail
    go_end0
    exact ⟨rfl, S, sv, HX.out.1, fun x hx => .inl hx, HX.out.2⟩
  | none =>
    rw [hsv] at cs0
    obtain ⟨V, hV⟩ : ∃ V, V = (V1.setCell ⟨wb, 3 + pc now t, none⟩ (.map (some V1.heap.size))).alloc (.map #[] 0) := ⟨_, rfl⟩
    obtain ⟨qV, hfV'⟩ := q1.make hs8 hsv hV
    have hfV : Fr S w V := hf1.trans hfV' fun x hx => .inl hx
    obtain ⟨b, hb⟩ : ∃ b, b = V1.heap.size := ⟨_, rfl⟩
    rw [← hb] at qV
    have oV : V.heap[w.heap.size]? = some (.cells #[ek k, er t] 155 (0, 0)) := by
      rw [hV]
      exact ((MapKept.heap_alloc _ _).2 _ (by simp; omega)).trans ((heap_setCell_other _ _ _ _ (by show w.heap.size ≠ wb; omega)).trans o1)
    have cb1 : V.cell? ⟨w.heap.size, 0, none⟩ = some (ek k) := by rw [cell_of_row _ _ _ _ _ _ oV]; rfl
    have cb2 : V.cell? ⟨w.heap.size, 1, none⟩ = some (er t) := by rw [cell_of_row _ _ _ _ _ _ oV]; rfl
    have fz := q1.frozen (3 + pc now t)
    have hs9 : pc now t < 449 := q.lt_pc (q.okf k t hf).2
    have hsb : (fun i => if i = pc now t then some b else sv i) (pc now t) = some b := by simp
    obtain ⟨m, hm⟩ := qV.slot_some hs9 hsb
    have hmn : m ≤ n := by
      obtain ⟨l, hl1, hl2⟩ := q.cnt
      rw [← hl2]
      exact mq_le hm (fun k t e => q.sub k t (gs_some.1 e).1) hl1
    have hmd : Mq V.drew b m (gs now h (pc now t)) := hm.kept rfl
    obtain ⟨V3, run3, hM3, hg3⟩ := hmd.put kindS (by unfold maxLen; omega) (q.okf k t hf).1 (wf_tk (q.okf k t hf).2)
    have cs1 := (qV.cell.2.2.2 _ hs9)
    rw [show (if pc now t = pc now t then some b else sv (pc now t)) = some b from hsb] at cs1
    have hfin : Wq (fun x => S x ∨ x = b) V3 wb ab (fun i => if i = pc now t then some b else sv i) now most n f (upd h k t) := by
      have hg4 : V.grownBy V3 (some b) := ⟨hg3.os, hg3.tape, hg3.output, hg3.size, hg3.block⟩
      refine qV.setSlot hs9 hsb (by rw [gs_put hk, if_pos rfl]; exact hM3) hg4 (fun s' _ hne => by rw [gs_put hk, if_neg hne]) (fun k' t' e => ?_)
      rcases upd_some.1 e with ⟨e1, e2⟩ | ⟨_, e1⟩
      · rw [e1, ← e2]; exact hf
      · exact q.sub k' t' e1
    have hfr3 : Fr S w V3 := hfV.trans (Fr.grown ⟨hg3.os, hg3.tape, hg3.output, hg3.size, hg3.block⟩ (S := (fun x => S x ∨ x = b)) (.inl (qV.ownS _ b hs9 hsb))) (fun x hx => hx.imp_right fun e => by omega)
    unfold ek er at *
    have HR := Lib.hid run3
    have HX := Lib.hid (And.intro hfin (And.intro hfr3 (And.intro hb z1)))
    have hw1 : wb < V1.heap.size := by omega
    clear hfin hfr3 run3 hM3 hg3 hmd hm hmn qV hfV hsv hsb q hn hf hk q1 o1 hf1 hs9 hs8 oV hfV' z1
    go_wp2_with fail
    rw [← hV]
    clear hV cs0 fz
    rw [← hb]
    clear hb
    refine begin' 99 (fun _ => True) hmix trivial (fun _ => ?_)
    refine later [7] (fun X => X.cell? ⟨wb, 3 + pc now t, none⟩ = some (.map (some b)) ∧ X.cell? ⟨w.heap.size, 0, none⟩ = some (.string ⟨k.toArray⟩) ∧ X.cell? ⟨w.heap.size, 1, none⟩ = some (.int .i64 t)) (⟨cs1, cb1, cb2⟩) (fun hS0 => ?_)
    refine Ht.takeS 10 (i := 0) ⟨some 16, _, _, _, _, _⟩ (.pointer (some ⟨wb, 3 + pc now t, none⟩)) rfl (by kernel_rfl) (by kernel_rfl) (by kernel_rfl) (by kernel_rfl) (by kernel_rfl) hS0 (Or.inl ⟨by rfl, by (intro X hX; go_simp)⟩) ?_
    simp only [Act.put, List.setIfInBounds_toArray, List.set_cons_zero, List.set_cons_succ]
    refine Ht.takeS 10 (i := 1) ⟨some 17, _, _, _, _, _⟩ (.pointer (some ⟨wb, 3 + pc now t, none⟩)) rfl (by kernel_rfl) (by kernel_rfl) (by kernel_rfl) (by kernel_rfl) (by kernel_rfl) hS0 (Or.inl ⟨by rfl, by (intro X hX; have := hX.1; go_simp)⟩) ?_
    simp only [Act.put, List.setIfInBounds_toArray, List.set_cons_zero, List.set_cons_succ]
    refine Ht.takeS 10 (i := 2) ⟨some 18, _, _, _, _, _⟩ (.map (some b)) rfl (by kernel_rfl) (by kernel_rfl) (by kernel_rfl) (by kernel_rfl) (by kernel_rfl) hS0 (Or.inl ⟨by rfl, by (intro X hX; have := hX.1; go_simp)⟩) ?_
    simp only [Act.put, List.setIfInBounds_toArray, List.set_cons_zero, List.set_cons_succ]
    refine Ht.takeS 10 (i := 3) ⟨some 19, _, _, _, _, _⟩ (.pointer (some ⟨w.heap.size, 0, none⟩)) rfl (by kernel_rfl) (by kernel_rfl) (by kernel_rfl) (by kernel_rfl) (by kernel_rfl) hS0 (Or.inl ⟨by rfl, by (intro X hX; go_simp)⟩) ?_
    simp only [Act.put, List.setIfInBounds_toArray, List.set_cons_zero, List.set_cons_succ]
    refine Ht.takeS 10 (i := 4) ⟨some 20, _, _, _, _, _⟩ (.string ⟨k.toArray⟩) rfl (by kernel_rfl) (by kernel_rfl) (by kernel_rfl) (by kernel_rfl) (by kernel_rfl) hS0 (Or.inl ⟨by rfl, by (intro X hX; have := hX.2.1; go_simp)⟩) ?_
    simp only [Act.put, List.setIfInBounds_toArray, List.set_cons_zero, List.set_cons_succ]
    refine Ht.takeS 10 (i := 5) ⟨some 21, _, _, _, _, _⟩ (.pointer (some ⟨w.heap.size, 1, none⟩)) rfl (by kernel_rfl) (by kernel_rfl) (by kernel_rfl) (by kernel_rfl) (by kernel_rfl) hS0 (Or.inl ⟨by rfl, by (intro X hX; go_simp)⟩) ?_
    simp only [Act.put, List.setIfInBounds_toArray, List.set_cons_zero, List.set_cons_succ]
    refine Ht.takeS 10 (i := 6) ⟨some 22, _, _, _, _, _⟩ (.int .i64 t) rfl (by kernel_rfl) (by kernel_rfl) (by kernel_rfl) (by kernel_rfl) (by kernel_rfl) hS0 (Or.inl ⟨by rfl, by (intro X hX; have := hX.2.2; go_simp)⟩) ?_
    simp only [Act.put, List.setIfInBounds_toArray, List.set_cons_zero, List.set_cons_succ]
    refine Ht.stepS (i := 7) ⟨none, _, _, _, _, _⟩ rfl (by kernel_rfl) (by rfl) (fun K hK => ?_)
    have run3 := HR.out
    go_simp
    refine hK _ _ (fun hn => absurd (by decide) hn) (fun hnx => ?_)
    clear hK K hnx
    try simp only [Act.put, List.setIfInBounds_toArray, List.set_cons_zero, List.set_cons_succ]
    refine doneS (by kernel_rfl) ?_
    go_wp2_with fail
    go_end0
    obtain ⟨h1, h2, h3, h4⟩ := HX.out
    exact ⟨rfl, _, _, h1, fun x hx => hx.imp_right fun e => by omega, h2⟩
end
end Go.Proofs.YtcodjknhnhdkfaaGreatDoor.Wh
namespace Go.Proofs.YtcodjknhnhdkfaaGreatDoor.Wh
open Go.RowKit Go.Lib Go.Sort Go.Maps Hp Ht
set_option linter.unusedVariables false
set_option maxRecDepth 20000
/-- less, equal, greater -/
def cm {V : Type} [LT V] [DecidableLT V] (x y : V) : Int := if x < y then -1 else if y < x then 1 else 0
theorem nanK_any (x : List UInt8) (w : World) : Calls Tryz.prog 139 #[ek x] w fun e w' => e = .returned (.bool false) ∧ w' = w := by
  unfold ek
  go_enter Tryz.func139, Tryz.ntmps139
  go_wp2
  go_ret
  exact ⟨by simp, rfl⟩
theorem cmpK_any (x y : List UInt8) (w : World) : Calls Tryz.prog 158 #[ek x, ek y] w fun e w' => e = .returned (.int .i64 (cm x y)) ∧ w' = w := by
  have h1 := nanK_any x w
  have h2 := nanK_any y w
  have e1 : Op.bytesLess x y = decide (x < y) := bytesLess_eq x y
  have hgt : ∀ W, (binOp .gtr 9 (.string ⟨x.toArray⟩) (.string ⟨y.toArray⟩)).run Tryz.prog W = .ok (.bool (decide (y < x))) W := gtr_str x y
  unfold ek at *
  go_enter Tryz.func158, Tryz.ntmps158
  go_wp2_with fail
  refine h1.mono ?_
  rintro e w1 ⟨rfl, rfl⟩
  go_wp2_with fail
  refine h2.mono ?_
  rintro e w1 ⟨rfl, rfl⟩
  go_wp2_with fail
  all_goals
    go_ret
    refine ⟨?_, rfl⟩
    unfold cm
    first | (simp_all; done) | (simp_all [bytesLess_eq]; done) | (simp; rw [if_neg (by omega), if_neg (by omega)])

theorem cfp_cm (x y : K × Int) : cfp x y = if cm x.2 y.2 = 0 then cm x.1 y.1 else cm x.2 y.2 := by
  unfold cfp cm
  by_cases h1 : x.2 < y.2
  · simp [h1]
  · by_cases h2 : y.2 < x.2
    · simp [h1, h2]
    · simp [h1, h2]

theorem cm_cases {V : Type} [LT V] [DecidableLT V] (x y : V) : -1 ≤ cm x y ∧ cm x y ≤ 1 := by
  unfold cm; split
  · omega
  · split <;> omega
theorem grow_below (w : World) (os : Array Obj) (q : Nat) : Below w.heap.size w (grow (w.drewN q) os) :=
  ⟨rfl, rfl, rfl, by simp [grow, World.drewN], fun k hk => by simp [grow, World.drewN, Array.getElem?_append, hk]⟩
end Go.Proofs.YtcodjknhnhdkfaaGreatDoor.Wh
namespace Go.Proofs.YtcodjknhnhdkfaaGreatDoor.Wh
open Go.RowKit Go.Lib Go.Sort Go.Maps Hp Ht
set_option linter.unusedVariables false
set_option maxRecDepth 20000
/-- none is ahead of one before it -/
def Srt (l : List (K × Int)) : Prop := ∀ i j, i < j → j < l.length → ltp (el l j) (el l i) = false
def encI (x : K × Int) : List Value := [ek x.1, er x.2]
section
variable {ops : Array Oper} {rest : List Oper} {o : Oper} {a : Act} {Q : Exit → Act → World → Prop}
/-- 'clear(s)' -/
theorem wpList_clear (w : World) (hgd : o.guard = none) (x : Operand) (ho : o.op = .call { callee := .builtin .clear, args := #[x], argTypes := #[95] }) (ob : Option Nat) (g : K → Option Int) (hx : a.eval x = .map ob) (h : Sl w ob g)
    (hK : ∀ w', Sl w' ob (fun _ => none) → w.grownBy w' ob → w'.heap.size = w.heap.size → wpList Tryz.prog ops Q rest (a.put o.dst (.tuple #[])) w') : wpList Tryz.prog ops Q (o :: rest) a w := by
  obtain ⟨w', hr, h1, h2, h3⟩ := run_clear h o.type
  refine wpList_plain hgd fun K' hK' => ?_
  unfold Oper.wp
  simp [execOp, ho, resolve, invoke, builtin, hx, hr, Result.andThen]
  exact hK' _ _ (hK w' h1 h2 h3)
end
theorem Rgs.le {w : World} {ob : Option Nat} {r : Nat} {g : K → Option Int} {es l : List (K × Int)} {cnt : Nat} (h : Rgs w ob r g es cnt) (hl : Ls g l) : es.length ≤ l.length :=
  len_sub es l (nodup_of_keys h.nodup) fun p hp => (hl.2 p.1 p.2).2 (h.sub p.1 p.2 hp)
theorem own_cell {w : World} {B : Nat} {v : Value} {l : List (K × Int)} (h : Own w B v l) {b : Nat} (hb : v.ownBlock = some b) : B ≤ b ∧ b < w.heap.size ∧ ∃ cur, w.heap[b]? = some (.cells cur 155 (0, 0)) := by
  refine ⟨(h.lt b hb).1, (h.lt b hb).2, ?_⟩
  rcases h.2 with ⟨rfl, _⟩ | ⟨g2, cap, cur, rfl, _, h3, _⟩
  · cases hb
  · cases hb; exact ⟨cur, h3⟩
theorem Rgs.ne_row {w : World} {ob : Option Nat} {r : Nat} {g : K → Option Int} {es : List (K × Int)} {cnt : Nat} (h : Rgs w ob r g es cnt) {b : Nat} {cur : Array Value} {t : TypeId} {fz : Nat × Nat} (hb : w.heap[b]? = some (.cells cur t fz)) : b ≠ r ∧ ob ≠ some b := by
  cases ob with
  | none =>
    refine ⟨?_, by simp⟩
    rintro rfl
    rw [h.1] at hb; cases hb
  | some b' =>
    obtain ⟨n, D, lf, ⟨es, clock, since, seen, c0, h1, _, _, _, h2, _⟩, _⟩ := h
    refine ⟨?_, ?_⟩
    · rintro rfl; rw [h2] at hb; cases hb
    · intro e; cases e; rw [h1] at hb; cases hb
theorem Sl.ne_row {w : World} {ob : Option Nat} {g : K → Option Int} (h : Sl w ob g) {b : Nat} {cur : Array Value} {t : TypeId} {fz : Nat × Nat} (hb : w.heap[b]? = some (.cells cur t fz)) : ob ≠ some b := by
  cases ob with
  | none => simp
  | some b' =>
    obtain ⟨n, hm⟩ := h
    intro e; cases e
    obtain ⟨es, clock, h1⟩ := hm.at
    rw [h1] at hb; cases hb
end Go.Proofs.YtcodjknhnhdkfaaGreatDoor.Wh
namespace Go.Proofs.YtcodjknhnhdkfaaGreatDoor.Wh
open Go.RowKit Go.Lib Go.Sort Go.Maps Hp Ht
set_option linter.unusedVariables false
set_option maxRecDepth 20000
theorem Ls.le {f g : K → Option Int} {l l' : List (K × Int)} (h : Ls g l') (hl : Ls f l) (hs : ∀ k t, g k = some t → f k = some t) : l'.length ≤ l.length :=
  len_sub l' l (nodup_of_keys h.1) fun p hp => (hl.2 p.1 p.2).2 (hs _ _ ((h.2 p.1 p.2).1 hp))
theorem Ls.part {f : K → Option Int} {l : List (K × Int)} (hl : Ls f l) (g : K → Option Int) (hs : ∀ k t, g k = some t → f k = some t) : ∃ l', Ls g l' ∧ l'.length ≤ l.length := by
  have h := hl.filter (fun x => decide (g x.1 = some x.2)) g fun k t => by
    simp only [decide_eq_true_eq]
    exact ⟨fun h => ⟨hs k t h, h⟩, fun h => h.2⟩
  exact ⟨_, h, h.le hl hs⟩
/-- what stands below a place -/
def dn (now : Int) (h : K → Option Int) (p : Nat) : K → Option Int := fun k => (h k).filter fun t => pc now t < p
theorem dn_some {now : Int} {h : K → Option Int} {p : Nat} {k : K} {t : Int} : dn now h p k = some t ↔ h k = some t ∧ pc now t < p := by
  unfold dn; simp [Option.filter_eq_some_iff]
theorem dn_zero (now : Int) (h : K → Option Int) : dn now h 0 = fun _ => none := ext_some fun k t => by rw [dn_some]; simp
theorem dn_step {now : Int} {h : K → Option Int} {s : Nat} {row es : List (K × Int)} (h1 : Ls (dn now h s) row) (h2 : Ls (gs now (frm now h s) s) es) : Ls (dn now h (s + 1)) (row ++ es) := by
  refine h1.join h2 (fun k t e => ?_) (fun k t => ?_)
  · cases e2 : gs now (frm now h s) s k with
    | none => rfl
    | some t2 =>
      rw [dn_some] at e
      rw [gs_some, frm_some] at e2
      rw [e.1] at e2
      have := Option.some.inj e2.1.1
      subst this
      omega
  · rw [dn_some, dn_some, gs_some, frm_some]
    constructor
    · rintro ⟨e1, e2⟩
      by_cases e3 : pc now t < s
      · exact .inl ⟨e1, e3⟩
      · exact .inr ⟨⟨e1, by omega⟩, by omega⟩
    · rintro (⟨e1, e2⟩ | ⟨⟨e1, e2⟩, e3⟩)
      · exact ⟨e1, by omega⟩
      · exact ⟨e1, by omega⟩
section
variable {S : Nat → Prop} {w : World} {wb ab : Nat} {sv : Nat → Option Nat} {now : Int} {most n : Nat} {f h : K → Option Int}
/-- the slots below s are passed -/
structure Ps (S : Nat → Prop) (w : World) (wb ab : Nat) (sv : Nat → Option Nat) (now : Int) (most n : Nat) (f h : K → Option Int) (s : Nat) (X : World) (v : Value) (row : List (K × Int)) : Prop where
  own : Own X w.heap.size v row
  row : Ls (dn now h s) row
  q : Wq S X wb ab sv now most n f (frm now h s)
  fr : Fr S w X
theorem Ps.start (q : Wq S w wb ab sv now most n f h) : Ps S w wb ab sv now most n f h 0 w (.slice none 0 0) [] :=
  ⟨⟨rfl, .inl ⟨rfl, rfl⟩⟩, by rw [dn_zero]; exact Ls.nil, by rw [frm_zero]; exact q, Fr.refl _ _⟩
theorem Ps.kept {s : Nat} {X Y : World} {v : Value} {row : List (K × Int)} (p : Ps S w wb ab sv now most n f h s X v row) (b : Below X.heap.size X Y) : Ps S w wb ab sv now most n f h s Y v row :=
  ⟨own_kept p.own fun k hk => b.block k (own_cell p.own hk).2.1, p.row, p.q.below b, p.fr.trans (Fr.of_below b) fun x hx => .inl hx⟩
end
end Go.Proofs.YtcodjknhnhdkfaaGreatDoor.Wh
namespace Go.Proofs.YtcodjknhnhdkfaaGreatDoor.Wh
open Go.RowKit Go.Lib Go.Sort Go.Maps Hp Ht
set_option linter.unusedVariables false
set_option maxRecDepth 20000
theorem run_index_arr (A : List Value) (hA : A.length = 64) (d : Nat) (hd : d < 64) (o : Option Nat) (hv : A[d]? = some (.map o)) (W : World) : (Instr.index 96 (.agg A.toArray) (.int .i64 ((d : Nat) : Int))).run Tryz.prog W = .ok (.map o) W := by
  have h1 : (0 : Int) ≤ ((d : Nat) : Int) ∧ ((d : Nat) : Int) < ((64 : Nat) : Int) := by omega
  have h2 : A[d]'(by omega) = .map o := by rw [List.getElem?_eq_getElem (by omega)] at hv; exact Option.some.inj hv
  have h3 : ¬ 64 ≤ d := by omega
  simp [Instr.index, run_underlying Tryz.underlying96, asIntOf, go_sem, part, Tryz.sizeOf95, Tryz.isAgg95, Result.andThen, hv, h3]
theorem wrap_up {m : Nat} (h : m ≤ 1000000) : wrap64 (((m : Nat) : Int) + 1) = ((m + 1 : Nat) : Int) := by unfold wrap64; omega
theorem pc_nat {a b : Nat} (h : ¬ b ≤ a) : pc ((a : Nat) : Int) ((b : Nat) : Int) = 1 + 64 * lv b a + dg b (lv b a) := by
  unfold pc pn
  rw [Int.toNat_natCast, Int.toNat_natCast, if_neg h]
section
variable {S : Nat → Prop} {w : World} {wb ab : Nat} {sv : Nat → Option Nat} {now : Int} {most n : Nat} {f h : K → Option Int}
theorem row_cells (q : Wq S w wb ab sv now most n f h) {l : Nat} (hl : l < 7) : ∃ A : List Value, A.length = 64 ∧ (∀ d, d < 64 → A[d]? = some (.map (sv (1 + 64 * l + d)))) ∧ w.rangeAt wb (4 + l * 64) A := by
  refine ⟨(List.range 64).map fun d => .map (sv (1 + 64 * l + d)), by simp, fun d hd => by simp [hd], fun j v hj => ?_⟩
  have hj2 : j < 64 := by
    have := (List.getElem?_eq_some_iff.1 hj).1
    simpa using this
  have := q.cell.2.2.2 (1 + 64 * l + j) (by omega)
  rw [show 3 + (1 + 64 * l + j) = 4 + l * 64 + j by omega] at this
  rw [this]
  simp [hj2] at hj
  rw [hj]
end
end Go.Proofs.YtcodjknhnhdkfaaGreatDoor.Wh
namespace Go.Proofs.YtcodjknhnhdkfaaGreatDoor.Wh
open Go.RowKit Go.Lib Go.Sort Go.Maps Hp Ht
set_option linter.unusedVariables false
set_option maxRecDepth 20000
/-- a wheel's blocks -/
def Bs (wb ab : Nat) (sv : Nat → Option Nat) (x : Nat) : Prop := x = wb ∨ x = ab ∨ ∃ s, s < 449 ∧ sv s = some x
section
variable {S : Nat → Prop} {w : World} {wb ab : Nat} {sv : Nat → Option Nat} {now : Int} {most n : Nat} {f h : K → Option Int}
theorem Wq.sub_own (q : Wq S w wb ab sv now most n f h) {x : Nat} (hx : Bs wb ab sv x) : S x := by
  rcases hx with rfl | rfl | ⟨s, hs, e⟩
  · exact q.ownW
  · exact q.ownA
  · exact q.ownS s x hs e
theorem Wq.min (q : Wq S w wb ab sv now most n f h) : Wq (Bs wb ab sv) w wb ab sv now most n f h :=
  { q with ownW := .inl rfl, ownA := .inr (.inl rfl), ownS := fun s b hs hb => .inr (.inr ⟨s, hs, hb⟩), size := fun k hk => q.size k (q.sub_own hk) }
theorem Wq.not_row (q : Wq S w wb ab sv now most n f h) {b : Nat} {cur : Array Value} (hb : w.heap[b]? = some (.cells cur 155 (0, 0))) : ¬ Bs wb ab sv b := by
  rintro (rfl | rfl | ⟨s, hs, e⟩)
  · obtain ⟨cur2, h1, _⟩ := q.obj
    rw [hb] at h1; cases h1
  · obtain ⟨es, c, h1⟩ := q.at'.at
    rw [hb] at h1; cases h1
  · obtain ⟨m, hm⟩ := q.slot_some hs e
    obtain ⟨es, c, h1⟩ := hm.at
    rw [hb] at h1; cases h1
/-- a turn on its way: j of what was passed are looked at -/
structure Tn (S : Nat → Prop) (wb ab : Nat) (tO : Int) (most n : Nat) (f h1 : K → Option Int) (row : List (K × Int)) (W0 : World) (j : Nat) (X : World) (sv : Nat → Option Nat) (n' : Nat) (f' h' : K → Option Int) (tv : Value) (told : List (K × Int)) : Prop where
  q : Wq (Bs wb ab sv) X wb ab sv tO most n' f' h'
  sub : ∀ x, Bs wb ab sv x → S x ∨ W0.heap.size ≤ x
  own : Own X W0.heap.size tv told
  tell : told = (row.take j).filter fun x => decide (x.2 ≤ tO)
  hh : ∀ k t, h' k = some t ↔ h1 k = some t ∨ ((k, t) ∈ row.take j ∧ tO < t)
  ff : ∀ k t, f' k = some t ↔ f k = some t ∧ ¬ ((k, t) ∈ row.take j ∧ t ≤ tO)
  nn : n' + told.length = n
  fr : Fr S W0 X
variable {tO : Int} {h1 : K → Option Int} {row : List (K × Int)} {W0 : World} {j : Nat} {X : World} {n' : Nat} {f' h' : K → Option Int} {tv : Value} {told : List (K × Int)}
theorem Tn.later (p : Tn S wb ab tO most n f h1 row W0 j X sv n' f' h' tv told) {Y : World} (b : Below X.heap.size X Y) : Tn S wb ab tO most n f h1 row W0 j Y sv n' f' h' tv told :=
  { p with q := p.q.below b, own := own_kept p.own fun k hk => b.block k (own_cell p.own hk).2.1, fr := p.fr.trans (Fr.of_below b) fun x hx => .inl hx }
theorem take_next {row : List (K × Int)} {j : Nat} (hj : j < row.length) : row.take (j + 1) = row.take j ++ [el row j] := by
  rw [List.take_add_one, el_get hj]; rfl
/-- what was passed: each once, none of what stays -/
structure Rw (f h1 : K → Option Int) (row : List (K × Int)) : Prop where
  nd : (row.map (·.1)).Nodup
  sub : ∀ k t, (k, t) ∈ row → f k = some t
  stay : ∀ k t, h1 k = some t → f k = some t
  apart : ∀ k t, (k, t) ∈ row → h1 k = none
theorem Rw.once (R : Rw f h1 row) {j : Nat} (hj : j < row.length) {t : Int} : ((el row j).1, t) ∉ row.take j := by
  intro hm
  have h2 := R.nd
  rw [← List.take_append_drop j row, List.map_append, List.nodup_append] at h2
  refine h2.2.2 (el row j).1 (List.mem_map.2 ⟨_, hm, rfl⟩) (el row j).1 (List.mem_map.2 ⟨el row j, ?_, rfl⟩) rfl
  rw [el_eq hj, List.mem_drop_iff_getElem]
  exact ⟨0, by simpa using hj, by simp⟩
theorem Tn.fresh (p : Tn S wb ab tO most n f h1 row W0 j X sv n' f' h' tv told) (R : Rw f h1 row) (hj : j < row.length) : h' (el row j).1 = none := by
  cases e : h' (el row j).1 with
  | none => rfl
  | some t =>
    exfalso
    have hm : ((el row j).1, (el row j).2) ∈ row := el_mem hj
    rcases (p.hh _ _).1 e with e1 | ⟨e1, _⟩
    · rw [R.apart _ _ hm] at e1; cases e1
    · exact R.once hj e1
theorem Tn.there (p : Tn S wb ab tO most n f h1 row W0 j X sv n' f' h' tv told) (R : Rw f h1 row) (hj : j < row.length) : f' (el row j).1 = some (el row j).2 :=
  (p.ff _ _).2 ⟨R.sub _ _ (el_mem hj), fun e => R.once hj e.1⟩
/-- one goes down -/
theorem Tn.put (p : Tn S wb ab tO most n f h1 row W0 j X sv n' f' h' tv told) (R : Rw f h1 row) (hj : j < row.length) (ht : tO < (el row j).2) {S'' : Nat → Prop} {sv'' : Nat → Option Nat} {Y : World}
    (q'' : Wq S'' Y wb ab sv'' tO most n' f' (upd h' (el row j).1 (el row j).2)) (hs : ∀ x, S'' x → Bs wb ab sv x ∨ X.heap.size ≤ x) (fr : Fr (Bs wb ab sv) X Y) : Tn S wb ab tO most n f h1 row W0 (j + 1) Y sv'' n' f' (upd h' (el row j).1 (el row j).2) tv told where
  q := q''.min
  sub x hx := by
    rcases hs x (q''.sub_own hx) with e | e
    · exact p.sub x e
    · exact .inr (Nat.le_trans p.fr.size e)
  own := own_kept p.own fun b hb => by
    obtain ⟨_, h2, cur, h3⟩ := own_cell p.own hb
    exact fr.block b h2 (p.q.not_row h3)
  tell := by rw [take_next hj, List.filter_append, ← p.tell]; simp; omega
  hh k t := by
    rw [upd_some, p.hh, take_next hj, List.mem_append, List.mem_singleton]
    constructor
    · rintro (⟨rfl, rfl⟩ | ⟨_, e | ⟨e, e2⟩⟩)
      · exact .inr ⟨.inr rfl, ht⟩
      · exact .inl e
      · exact .inr ⟨.inl e, e2⟩
    · rintro (e | ⟨e | e, e2⟩)
      · exact .inr ⟨fun e3 => (by have := R.apart (el row j).1 (el row j).2 (el_mem hj); rw [e3, this] at e; cases e), .inl e⟩
      · exact .inr ⟨fun e3 => R.once hj (e3 ▸ e), .inr ⟨e, e2⟩⟩
      · exact .inl ⟨by rw [← e], by rw [← e]⟩
  ff k t := by
    rw [p.ff, take_next hj, List.mem_append, List.mem_singleton]
    constructor
    · rintro ⟨e, e2⟩
      refine ⟨e, fun e3 => ?_⟩
      rcases e3.1 with e4 | e4
      · exact e2 ⟨e4, e3.2⟩
      · have := e3.2; rw [← e4] at ht; simp only at ht; omega
    · rintro ⟨e, e2⟩
      exact ⟨e, fun e3 => e2 ⟨.inl e3.1, e3.2⟩⟩
  nn := p.nn
  fr := p.fr.trans fr fun x hx => p.sub x hx
/-- one is told -/
theorem Tn.cut (p : Tn S wb ab tO most n f h1 row W0 j X sv n' f' h' tv told) (R : Rw f h1 row) (hj : j < row.length) (ht : (el row j).2 ≤ tO) {Y Z : World} {tv' : Value} (hm : Mq Y ab (n' - 1) (del f' (el row j).1)) (hg : X.grownBy Y (some ab))
    (hz : Own Z W0.heap.size tv' (told ++ [el row j])) (hgz : Y.grownBy Z tv.ownBlock) : Tn S wb ab tO most n f h1 row W0 (j + 1) Z sv (n' - 1) (del f' (el row j).1) h' tv' (told ++ [el row j]) := by
  have hth := p.there R hj
  have hcnt : ∃ l, Ls (del f' (el row j).1) l ∧ l.length = n' - 1 ∧ 0 < n' := by
    obtain ⟨l, hl, hln⟩ := p.q.cnt
    have hc := hl.cut (el row j).1
    refine ⟨_, hc, ?_⟩
    have hp : Ls f' ((el row j) :: l.filter fun x => x.1 ≠ (el row j).1) := by
      refine ⟨?_, fun k t => ?_⟩
      · rw [List.map_cons, List.nodup_cons]
        refine ⟨fun e => ?_, hc.1⟩
        obtain ⟨y, hy, e2⟩ := List.mem_map.1 e
        have := (List.mem_filter.1 hy).2
        simp [e2] at this
      · rw [List.mem_cons, hc.2, del_some]
        constructor
        · rintro (e | ⟨_, e⟩)
          · rw [show k = (el row j).1 by rw [← e], show t = (el row j).2 by rw [← e]]; exact hth
          · exact e
        · intro e
          by_cases e2 : k = (el row j).1
          · subst e2
            rw [hth] at e
            cases e
            exact .inl rfl
          · exact .inr ⟨e2, e⟩
    have := (hl.same hp).length_eq
    simp only [List.length_cons] at this
    omega
  obtain ⟨lc, hc1, hc2, hn0⟩ := hcnt
  have hfresh := p.fresh R hj
  have q1 : Wq (Bs wb ab sv) Y wb ab sv tO most (n' - 1) (del f' (el row j).1) h' := p.q.setAt hm hg (fun k t e => p.q.okf k t (del_some.1 e).2) (fun k t e => del_some.2 ⟨fun e2 => (by rw [e2, hfresh] at e; cases e), p.q.sub k t e⟩) ⟨lc, hc1, hc2⟩
  have hgz' : ∀ k, k < Y.heap.size → tv.ownBlock ≠ some k → Z.heap[k]? = Y.heap[k]? := fun k hk hn => hgz.block k hk (fun e => hn e.symm)
  have hnb : ∀ k, Bs wb ab sv k → tv.ownBlock ≠ some k := fun k hk e => by
    obtain ⟨_, _, cur, h3⟩ := own_cell p.own e
    exact p.q.not_row h3 hk
  refine ⟨q1.kept hgz.size fun k hk => hgz' k (q1.size k hk) (hnb k hk), p.sub, hz, ?_, fun k t => ?_, fun k t => ?_, ?_, ?_⟩
  · rw [take_next hj, List.filter_append, ← p.tell]; simp [ht]
  · rw [p.hh, take_next hj, List.mem_append, List.mem_singleton]
    constructor
    · rintro (e | ⟨e, e2⟩)
      · exact .inl e
      · exact .inr ⟨.inl e, e2⟩
    · rintro (e | ⟨e | e, e2⟩)
      · exact .inl e
      · exact .inr ⟨e, e2⟩
      · rw [← e] at ht; simp only at ht; omega
  · rw [del_some, p.ff, take_next hj, List.mem_append, List.mem_singleton]
    constructor
    · rintro ⟨e1, e2, e3⟩
      refine ⟨e2, fun e4 => ?_⟩
      rcases e4.1 with e5 | e5
      · exact e3 ⟨e5, e4.2⟩
      · exact e1 (by rw [← e5])
    · rintro ⟨e2, e3⟩
      refine ⟨fun e4 => ?_, e2, fun e4 => e3 ⟨.inl e4.1, e4.2⟩⟩
      have h5 := R.sub (el row j).1 (el row j).2 (el_mem hj)
      rw [e4, h5] at e2
      have h6 := Option.some.inj e2
      exact e3 ⟨.inr (Prod.ext e4 h6.symm), by omega⟩
  · have := p.nn; simp; omega
  · refine (p.fr.trans (Fr.grown hg (S := Bs wb ab sv) (.inl (.inr (.inl rfl)))) fun x hx => p.sub x hx).trans (Fr.grownN hgz (S := fun x => W0.heap.size ≤ x) fun b e => .inl (own_cell p.own e).1) fun x hx => .inr hx
end
end Go.Proofs.YtcodjknhnhdkfaaGreatDoor.Wh
namespace Go.Proofs.YtcodjknhnhdkfaaGreatDoor.Wh
open Go.RowKit Go.Lib Go.Sort Go.Maps Hp Ht
set_option linter.unusedVariables false
set_option maxRecDepth 20000
theorem wp_delete {o : Oper} {a : Act} {W W' : World} {F : Act → World → Prop} {Q : Exit → Act → World → Prop} {v u v' : Value} (s x : Operand) (t tk : TypeId)
    (ho : o.op = .call { callee := .builtin .delete, args := #[s, x], argTypes := #[t, tk] }) (hs : a.eval s = v) (hx : a.eval x = u)
    (hr : (Builtin.delete_ #[t, tk] o.type #[v, u]).run Tryz.prog W = .ok v' W') (h : F (a.put o.dst v') W') : o.wp Tryz.prog a W F Q := by
  unfold Oper.wp execOp
  simp only [ho, resolve, invoke, builtin, Sem.run_bind, Sem.run_pure, Result.andThen_ok, List.map_toArray, List.map_cons, List.map_nil, hs, hx, hr]
  exact h
section
variable {S : Nat → Prop} {w : World} {wb ab : Nat} {sv : Nat → Option Nat} {now : Int} {most n : Nat} {f : K → Option Int}
theorem cells_one (V : World) (k : K) (t : Int) : ∀ j u, (cs [(k, t)])[j]? = some u → (V.alloc (.cells #[ek k, er t] 155)).cell? ((⟨V.heap.size, 0, none⟩ : Addr).add j) = some u := by
  intro j u hj
  match j, hj with
  | 0, hj | 1, hj =>
    simp [cs] at hj
    subst hj
    simp [Addr.add]
end
end Go.Proofs.YtcodjknhnhdkfaaGreatDoor.Wh
namespace Go.Proofs.YtcodjknhnhdkfaaGreatDoor.Wh
open Go.RowKit Go.Lib Go.Sort Go.Maps Hp Ht
set_option linter.unusedVariables false
set_option maxRecDepth 200000
def wcn (n : Nat) : Array Value := #[.int .i64 0, .int .i64 0, .map none] ++ Array.replicate n (.map none)
theorem wcn_cells (n : Nat) : (wcn n).size = 3 + n ∧ ∀ s, s < n → (wcn n)[3 + s]? = some (.map none) := by
  unfold wcn
  refine ⟨by simp, fun s hs => ?_⟩
  rw [Array.getElem?_append]
  rw [if_neg (by simp)]
  simp [hs]
theorem run_zero (w : World) : (zeroValue 99).run Tryz.prog w = .ok (.agg (wcn 449)) w := by kernel_rfl
theorem run_box (C : Array Value) (w : World) : (Instr.box 99 (.agg C)).run Tryz.prog w = .ok (.pointer (some ⟨w.heap.size, 0, none⟩)) (w.alloc (.cells C 99)) := by kernel_rfl
theorem wcn_zero : ∃ Z : Array Value, (∀ w, (zeroValue 99).run Tryz.prog w = .ok (.agg Z) w) ∧ Z.size = 452 ∧ Z ≠ #[] ∧ ∀ s, s < 449 → Z[3 + s]? = some (.map none) := by
  obtain ⟨h1, h2⟩ := wcn_cells 449
  exact ⟨_, run_zero, h1, fun e => by rw [e] at h1; simp at h1, h2⟩
theorem set_cells {Z : Array Value} (h1 : Z.size = 452) (h2 : ∀ s, s < 449 → Z[3 + s]? = some (.map none)) (a b c : Value) :
    (((Z.setIfInBounds 0 a).setIfInBounds 1 b).setIfInBounds 2 c).size = 452 ∧ (((Z.setIfInBounds 0 a).setIfInBounds 1 b).setIfInBounds 2 c)[0]? = some a ∧ (((Z.setIfInBounds 0 a).setIfInBounds 1 b).setIfInBounds 2 c)[1]? = some b ∧
    (((Z.setIfInBounds 0 a).setIfInBounds 1 b).setIfInBounds 2 c)[2]? = some c ∧ ∀ s, s < 449 → (((Z.setIfInBounds 0 a).setIfInBounds 1 b).setIfInBounds 2 c)[3 + s]? = some (.map none) := by
  refine ⟨by simpa using h1, ?_, ?_, ?_, fun s hs => ?_⟩
  · rw [Array.getElem?_setIfInBounds_ne (by omega), Array.getElem?_setIfInBounds_ne (by omega), Array.getElem?_setIfInBounds_self_of_lt (by omega)]
  · rw [Array.getElem?_setIfInBounds_ne (by omega), Array.getElem?_setIfInBounds_self_of_lt (by simp; omega)]
  · rw [Array.getElem?_setIfInBounds_self_of_lt (by simp; omega)]
  · rw [Array.getElem?_setIfInBounds_ne (by omega), Array.getElem?_setIfInBounds_ne (by omega), Array.getElem?_setIfInBounds_ne (by omega)]; exact h2 s hs
end Go.Proofs.YtcodjknhnhdkfaaGreatDoor.Wh
namespace Go.Proofs.YtcodjknhnhdkfaaGreatDoor.Wh
open Go.RowKit Go.Lib Go.Sort Go.Maps Hp Ht
set_option linter.unusedVariables false
set_option maxRecDepth 20000
section
variable {S : Nat → Prop} {w : World} {wb : Nat} {now : Int} {most : Nat} {m : List (K × Int)}
theorem len_parts (m : List (K × Int)) (p : K × Int → Bool) : (m.filter p).length + (m.filter fun x => !p x).length = m.length := by
  induction m with
  | nil => rfl
  | cons x m ih =>
    by_cases e : p x = true
    · simp [e]; omega
    · simp [e]; omega
theorem now_any (hq : Wv S w wb now most m) : Calls Tryz.prog 42 #[.pointer (some ⟨wb, 0, none⟩)] w fun e w' => e = .returned (.int .i64 now) ∧ w' = w := by
  obtain ⟨ab, sv, f, q, hL⟩ := hq
  have c0 := q.cell.1
  clear q hL
  go_enter Tryz.func42, Tryz.ntmps42
  go_wp2_with fail
  go_ret
  exact ⟨by simp, rfl⟩
theorem Wv.at_ (hq : Wv S w wb now most m) {f : K → Option Int} (hf : Ls f m) : ∃ ab sv, Wq S w wb ab sv now most m.length f f := by
  obtain ⟨ab, sv, f', q, hL⟩ := hq
  have : f = f' := ext_some fun k t => by rw [← hf.2, hL.2]
  subst this
  exact ⟨ab, sv, q⟩
end
/-- a wheel that was just built -/
theorem wq_new {Y : World} {wb ab n : Nat} {now : Int} {most : Nat} {f : K → Option Int} {C : Array Value} (h1 : Y.heap[wb]? = some (.cells C 99 (0, 0)))
    (hC : C.size = 452 ∧ C[0]? = some (.int .i64 now) ∧ C[1]? = some (.int .i64 ((most : Nat) : Int)) ∧ C[2]? = some (.map (some ab)) ∧ ∀ s, s < 449 → C[3 + s]? = some (.map none)) (h2 : Mq Y ab n f) (ok : ∀ k t, f k = some t → wk k ∧ Tk t) (hc : ∃ l, Ls f l ∧ l.length = n) (ht : Tk now) :
    Wq (Bs wb ab fun _ => none) Y wb ab (fun _ => none) now most n f (fun _ => none) where
  obj := ⟨_, h1, hC⟩
  at' := h2
  slot s hs k := rfl
  dist s s' b _ _ e := by cases e
  apart s b _ e := by cases e
  ownW := .inl rfl
  ownA := .inr (.inl rfl)
  ownS s b _ e := by cases e
  size k hk := by
    rcases hk with rfl | rfl | ⟨s, _, e⟩
    · exact (Array.getElem?_eq_some_iff.1 h1).1
    · exact h2.lt
    · cases e
  okf := ok
  sub k t e := by cases e
  tick := ht
  cnt := hc
theorem new_any (w : World) {now : Int} {most : Nat} (hn : Tk now) (h1 : 1 ≤ most) (h2 : most ≤ 65536) : Calls Tryz.prog 26 #[.int .i64 now, .int .i64 ((most : Nat) : Int)] w fun e w' =>
    ∃ wb S', e = .returned (.tuple #[.pointer (some ⟨wb, 0, none⟩), .int .i64 0]) ∧ Wv S' w' wb now most [] ∧ (∀ x, S' x → w.heap.size ≤ x) ∧ Below w.heap.size w w' := by
  have hi := isTick_any now w
  rw [decide_eq_true hn.1, decide_eq_true hn.2] at hi
  have a1 : (1 : Int) ≤ ((most : Nat) : Int) := by omega
  have a2 : ((most : Nat) : Int) ≤ 65536 := by omega
  have hmm := @run_makeMap Tryz.prog
  have hbo := run_box
  obtain ⟨Z, hz, hZ1, hZ2, hZ3⟩ := wcn_zero
  have HC := Lib.hid (And.intro (set_cells hZ1 hZ3 (.int .i64 now) (.int .i64 ((most : Nat) : Int)) (.map (some w.heap.size))) hn)
  have hZ4 : ¬ Z.size < 2 := by omega
  have hZ5 : ¬ Z.size < 3 := by omega
  clear hZ1 hZ3 h1 h2 hn
  go_enter Tryz.func26, Tryz.ntmps26
  go_wp2_with fail
  refine hi.mono ?_
  rintro e w1 ⟨rfl, rfl⟩
  go_wp2_with fail
  refine bodyPost_ret (results_tmp2 rfl _ _ _) rfl ?_
  obtain ⟨hC, hn⟩ := HC.out
  obtain ⟨C, hCe⟩ : ∃ C, C = (((Z.setIfInBounds 0 (.int .i64 now)).setIfInBounds 1 (.int .i64 ((most : Nat) : Int))).setIfInBounds 2 (.map (some w1.heap.size))) := ⟨_, rfl⟩
  rw [← hCe] at hC ⊢
  have g1 := MapKept.heap_alloc w1 (.map #[] 0)
  have g2 := MapKept.heap_alloc (w1.alloc (.map #[] 0)) (.cells C 99)
  have z1 : (w1.alloc (.map #[] 0)).heap.size = w1.heap.size + 1 := by simp
  rw [z1] at g2
  have hm : Mq ((w1.alloc (.map #[] 0)).alloc (.cells C 99)) w1.heap.size 0 (fun _ => none) := (mp_made kindA w1).kept (g2.2 _ (by omega))
  have hb : Below w1.heap.size w1 ((w1.alloc (.map #[] 0)).alloc (.cells C 99)) := ((Below.refl _ w1).alloc (Nat.le_refl _) _).alloc (by omega) _
  refine ⟨w1.heap.size + 1, _, by simp, ⟨w1.heap.size, _, _, wq_new g2.1 hC hm (fun k t e => by cases e) ⟨[], Ls.nil, rfl⟩ hn, Ls.nil⟩, fun x hx => ?_, hb⟩
  rcases hx with rfl | rfl | ⟨s, _, e⟩
  · omega
  · omega
  · cases e
theorem new_bad (w : World) {now most : Int} (hb : (now < 0 ∨ MT < now) ∨ most < 1 ∨ 65536 < most) : Calls Tryz.prog 26 #[.int .i64 now, .int .i64 most] w fun e w' => e = .returned (.tuple #[.pointer none, .int .i64 1]) ∧ w' = w := by
  have hi := isTick_any now w
  by_cases h1 : now < 0 ∨ MT < now
  · have e1 : (decide (0 ≤ now) && decide (now ≤ MT)) = false := by
      rcases h1 with h | h
      · simp; omega
      · simp; omega
    rw [e1] at hi
    clear hb e1
    go_enter Tryz.func26, Tryz.ntmps26
    go_wp2_with fail
    refine hi.mono ?_
    rintro e w1 ⟨rfl, rfl⟩
    go_wp2_with fail
    refine bodyPost_ret (results_tmp2 rfl _ _ _) rfl ?_
    exact ⟨by simp, rfl⟩
  · have e1 : (decide (0 ≤ now) && decide (now ≤ MT)) = true := by
      simp; omega
    rw [e1] at hi
    have hb2 : most < 1 ∨ 65536 < most := by
      rcases hb with h | h
      · exact absurd h h1
      · exact h
    clear hb e1
    rcases Int.lt_or_le most 1 with h | h
    · clear hb2
      go_enter Tryz.func26, Tryz.ntmps26
      go_wp2_with fail
      refine hi.mono ?_
      rintro e w1 ⟨rfl, rfl⟩
      go_wp2_with fail
      refine bodyPost_ret (results_tmp2 rfl _ _ _) rfl ?_
      exact ⟨by simp, rfl⟩
    · have h3 : 65536 < most := by omega
      clear hb2
      go_enter Tryz.func26, Tryz.ntmps26
      go_wp2_with fail
      refine hi.mono ?_
      rintro e w1 ⟨rfl, rfl⟩
      go_wp2_with fail
      refine bodyPost_ret (results_tmp2 rfl _ _ _) rfl ?_
      exact ⟨by simp, rfl⟩
end Go.Proofs.YtcodjknhnhdkfaaGreatDoor.Wh
namespace Go.Proofs.YtcodjknhnhdkfaaGreatDoor.Wh
open Go.RowKit Go.Lib Go.Sort Go.Maps Hp Ht
set_option linter.unusedVariables false
set_option maxRecDepth 20000
section
variable {S : Nat → Prop} {w : World} {wb : Nat} {now : Int} {most : Nat} {m : List (K × Int)}
/-- what Add answers -/
def addE (most : Nat) (m : List (K × Int)) (f : K → Option Int) (k : K) (t : Int) : Int :=
  if k = [] ∨ ¬ (0 ≤ t ∧ t ≤ MT) then 1 else if (f k).isSome then 8 else if most ≤ m.length then 6 else 0
theorem add_bad (hq : Wv S w wb now most m) {k : K} {t : Int} (hb : k = [] ∨ ¬ (0 ≤ t ∧ t ≤ MT)) : Calls Tryz.prog 74 #[.pointer (some ⟨wb, 0, none⟩), ek k, .int .i64 t] w fun e w' => e = .returned (.int .i64 1) ∧ w' = w := by
  clear hq
  have hi := isTick_any t w
  unfold ek
  by_cases h1 : k = []
  · subst h1
    clear hb
    go_enter Tryz.func74, Tryz.ntmps74
    go_wp2_with fail
    go_ret
    exact ⟨by simp, rfl⟩
  · have e1 : (decide (0 ≤ t) && decide (t ≤ MT)) = false := by
      rcases hb with h | h
      · exact absurd h h1
      · simp; omega
    rw [e1] at hi
    clear hb e1
    have hke : List.isEmpty k = false := by simpa using h1
    go_enter Tryz.func74, Tryz.ntmps74
    go_wp2_with fail
    refine hi.mono ?_
    rintro e w1 ⟨rfl, rfl⟩
    go_wp2_with fail
    go_ret
    exact ⟨by simp, rfl⟩
set_option maxHeartbeats 1000000 in
theorem add_no (hq : Wv S w wb now most m) {f : K → Option Int} (hf : Ls f m) {k : K} {t : Int} (h1 : ¬ k = []) (hk : wk k) (ht : Tk t) {c : Int} (hc : ((f k).isSome = true ∧ c = 8) ∨ (f k = none ∧ most ≤ m.length ∧ c = 6)) (hm : m.length ≤ 1000000) :
    Calls Tryz.prog 74 #[.pointer (some ⟨wb, 0, none⟩), ek k, .int .i64 t] w fun e w' => e = .returned (.int .i64 c) ∧ ∃ d, w' = w.drewN d := by
  have hi := isTick_any t w
  rw [decide_eq_true ht.1, decide_eq_true ht.2] at hi
  obtain ⟨ab, sv, q⟩ := hq.at_ hf
  have c0 := q.cell.2.2.1
  have c1 := q.cell.2.1
  have hl0 := q.at'.look kindA rfl hk
  have hlen := fun (W : World) (e : W.heap[ab]? = w.heap[ab]?) ty => q.at'.len kindA e ty
  have hln := fun (n : Nat) ty => hlen (w.drewN n) rfl ty
  have hke : List.isEmpty k = false := by simpa using h1
  unfold ek at *
  clear q hf hq hlen hk ht
  rcases hc with ⟨e1, rfl⟩ | ⟨e1, e2, rfl⟩
  · rw [e1] at hl0
    generalize (f k).getD 0 = a1 at *
    clear hln c1 e1
    go_enter Tryz.func74, Tryz.ntmps74
    go_wp2_with fail
    refine hi.mono ?_
    rintro e w1 ⟨rfl, rfl⟩
    go_wp2_with fail
    go_ret
    exact ⟨by simp, 0, rfl⟩
  · rw [e1] at hl0
    have e3 : ((most : Nat) : Int) ≤ ((m.length : Nat) : Int) := by omega
    generalize m.length = n at *
    clear e1 e2
    go_enter Tryz.func74, Tryz.ntmps74
    go_wp2_with fail
    refine hi.mono ?_
    rintro e w1 ⟨rfl, rfl⟩
    go_wp2_with fail
    go_quiet (fail)
    go_wp2_with fail
    go_ret
    exact ⟨by simp, _, rfl⟩
set_option maxHeartbeats 2000000 in
theorem add_yes (hq : Wv S w wb now most m) {f : K → Option Int} (hf : Ls f m) {k : K} {t : Int} (h1 : ¬ k = []) (hk : wk k) (ht : Tk t) (hn : f k = none) (hlt : m.length < most) (hm : m.length ≤ 900000) :
    Calls Tryz.prog 74 #[.pointer (some ⟨wb, 0, none⟩), ek k, .int .i64 t] w fun e w' => e = .returned (.int .i64 0) ∧ ∃ S', Wv S' w' wb now most (m ++ [(k, t)]) ∧ (∀ x, S' x → S x ∨ w.heap.size ≤ x) ∧ Fr S w w' := by
  have hi := isTick_any t w
  rw [decide_eq_true ht.1, decide_eq_true ht.2] at hi
  obtain ⟨ab, sv, q⟩ := hq.at_ hf
  have c0 := q.cell.2.2.1
  have c1 := q.cell.2.1
  have hke : List.isEmpty k = false := by simpa using h1
  have hl0 := q.at'.look kindA rfl hk
  rw [hn] at hl0
  have hlen := fun (W : World) (e : W.heap[ab]? = w.heap[ab]?) ty => q.at'.len kindA e ty
  have hln := fun (n : Nat) ty => hlen (w.drewN n) rfl ty
  have e3 : ((m.length : Nat) : Int) < ((most : Nat) : Int) := by omega
  have HH := Lib.hid (And.intro q (And.intro hf (And.intro hk (And.intro ht (And.intro hn hm)))))
  unfold ek at *
  clear q hf hq hlen hk ht hn hlt hm
  generalize m.length = n at *
  go_enter Tryz.func74, Tryz.ntmps74
  go_wp2_with fail
  refine hi.mono ?_
  rintro e w1 ⟨rfl, rfl⟩
  go_wp2_with fail
  go_quiet (fail)
  rename_i nq
  obtain ⟨q, hf, hk, ht, hn, hm⟩ := HH.out
  obtain ⟨V, hV⟩ : ∃ V, V = w1.drewN nq := ⟨_, rfl⟩
  have qV : Wq S V wb ab sv now most n f f := by rw [hV]; exact q.kept (Nat.le_refl _) fun _ _ => rfl
  have hfV : Fr S w1 V := by rw [hV]; exact ⟨rfl, rfl, rfl, Nat.le_refl _, fun _ _ _ => rfl⟩
  have cV := qV.cell.2.2.1
  rw [← hV]
  clear hV c0 c1 hl0 hln q
  obtain ⟨V2, run2, hM2, hg2⟩ := qV.at'.put kindA (by unfold maxLen; omega) hk (wf_tk ht)
  rw [hn] at hM2
  have q2 : Wq S V2 wb ab sv now most (n + 1) (upd f k t) f := qV.setAt hM2 hg2 (fun k' t' e => by
      rcases upd_some.1 e with ⟨rfl, rfl⟩ | ⟨_, e2⟩
      · exact ⟨hk, ht⟩
      · exact qV.okf k' t' e2) (fun k' t' e => upd_some.2 (.inr ⟨fun e2 => (by rw [e2, hn] at e; cases e), e⟩)) (by
      obtain ⟨l, hl1, hl2⟩ := qV.cnt
      exact ⟨_, hl1.put hn t, by simp [hl2]⟩)
  have hP := put_any q2 (by omega) (k := k) (t := t) (by simp [upd]) hn
  have HX := Lib.hid (And.intro hf (And.intro hn (And.intro (hfV.trans (Fr.grown hg2 (S := S) (.inl q2.ownA)) fun x hx => .inl hx) hm)))
  clear qV hfV hM2 hg2 q2 hf hn hm
  unfold ek er at *
  go_wp2_with fail
  refine hP.mono ?_
  rintro e w3 ⟨rfl, S', sv', q3, s3, f3⟩
  have HZ := Lib.hid (And.intro q3 (And.intro s3 f3))
  clear q3 s3 f3 hP
  go_wp2_with fail
  go_ret
  obtain ⟨hf, hn, fr, hm⟩ := HX.out
  obtain ⟨q3, s3, f3⟩ := HZ.out
  obtain ⟨l, hl1, hl2⟩ := q3.cnt
  refine ⟨by simp, S', ⟨ab, sv', upd f k t, ?_, hf.put hn t⟩, fun x hx => ?_, fr.trans f3 fun x hx => .inl hx⟩
  · have : (m ++ [(k, t)]).length = n + 1 := by rw [← hl2]; exact (hl1.same (hf.put hn t)).length_eq.symm
    rw [this]; exact q3
  · rcases s3 x hx with h | h
    · exact .inl h
    · exact .inr (Nat.le_trans fr.size h)
end
end Go.Proofs.YtcodjknhnhdkfaaGreatDoor.Wh
