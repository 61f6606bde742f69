
/- graphs: Link, where both are there -/
import Derived.Test.YtmlmacplkfnhkaaDgNA
namespace Go.Proofs.Ytmlmacplkfnhkaa.DgA
open Go.RowKit Go.Lib Hp Mv Dg Ht
set_option linter.unusedVariables false
set_option maxRecDepth 20000
attribute [local go_sem] Oper.semAt_some
theorem eql_id (x y : Id) (W : World) : (binOp .eql 44 (ek x) (ek y)).run Try.prog W = .ok (.bool (decide (x = y))) W := by
  obtain ⟨a, b⟩ := x
  obtain ⟨c, d⟩ := y
  unfold ek kv
  go_simp
  by_cases h1 : a = c <;> by_cases h2 : b = d <;> simp [h1, h2]
section
variable {S : Nat → Prop} {w : World} {gb : Nat} {mv : Option Nat} {ns : List Id} {E : Id → Id → Bool} {nb ob ub : Id → Nat}
/-- what Link does -/
def Linked (S : Nat → Prop) (w w' : World) (gb : Nat) (mv : Option Nat) (ns : List Id) (E : Id → Id → Bool) (nb ob ub : Id → Nat) (x o : Id) (n : Int) : Prop :=
  ∃ E', Gq S w' gb mv ns E' nb ob ub ∧ Fr S w w' ∧ ((n = 9 ∧ E' = E ∧ (x = o ∨ Re E o x)) ∨ (n = 8 ∧ E' = E ∧ ¬ (x = o ∨ Re E o x) ∧ E x o = true) ∨ (n = 0 ∧ E' = addE E x o ∧ ¬ (x = o ∨ Re E o x) ∧ E x o = false))
set_option maxHeartbeats 4000000 in
theorem link_any (q : Gq S w gb mv ns E nb ob ub) (k on : Int) (hk : (k, false) ∈ ns) (ho : (on, false) ∈ ns) (hN : ns.length ≤ 900000) : Calls Try.prog 8 #[.pointer (some ⟨gb, 0, none⟩), kv k, kv on] w fun e w' => ∃ n, e = .returned (.int .i64 n) ∧ Linked S w w' gb mv ns E nb ob ub (k, false) (on, false) n := by
  have HQ := Lib.hid (And.intro q (And.intro hk (And.intro ho hN)))
  clear q hk ho hN
  have hmix : Try.prog.follows .mixedOrders = true := by kernel_rfl
  unfold kv
  go_enter Try.func8, Try.ntmps8
  go_wp2_with fail
  refine (idOf_any k _).mono ?_
  rintro e W1 ⟨rfl, hb1⟩
  have HB1 := Lib.hid hb1
  clear hb1
  unfold ek kv
  go_wp2_with fail
  refine (idOf_any on _).mono ?_
  rintro e W2 ⟨rfl, hb2⟩
  have HB2 := Lib.hid hb2
  clear hb2
  unfold ek kv
  go_wp2_with fail
  obtain ⟨V, hV⟩ : ∃ V, V = (W2.alloc (.cells #[.int .i64 k, .bool false] 44)).alloc (.cells #[.int .i64 on, .bool false] 44) := ⟨_, rfl⟩
  have hA := below_new W2 (.cells #[kv k, .bool false] 44)
  have hB := below_new (W2.alloc (.cells #[kv k, .bool false] 44)) (.cells #[kv on, .bool false] 44)
  have ck := cell_id W2 (k, false)
  have co := cell_id (W2.alloc (.cells #[kv k, .bool false] 44)) (on, false)
  have ck2 := And.intro (bc hB ck.1) (bc hB ck.2)
  rw [show (W2.alloc (.cells #[kv k, .bool false] 44)).heap.size = W2.heap.size + 1 by simp] at co
  have hbV : Below W2.heap.size W2 ((W2.alloc (.cells #[kv k, .bool false] 44)).alloc (.cells #[kv on, .bool false] 44)) := hA.trans (hB.mono hA.size)
  unfold kv at ck2 co hbV
  rw [← hV] at ck2 co hbV ⊢
  obtain ⟨N, hN⟩ : ∃ N, N = W2.heap.size := ⟨_, rfl⟩
  have hbw : Below w.heap.size w V := HB1.out.trans ((HB2.out.trans (hbV.mono HB2.out.size)).mono HB1.out.size)
  rw [← hN] at ck2 co ⊢
  have HV := Lib.hid (And.intro hbw (And.intro (HQ.out.1.below hbw (Nat.le_refl _)) (And.intro ck2 co)))
  clear hV hA hB ck hN hbV hbw
  have hh1 := has_any HV.out.2.1 (k, false) (HV.out.2.1.ok _ HQ.out.2.1).1
  rw [decide_eq_true HQ.out.2.1] at hh1
  refine hh1.mono ?_
  rintro e V1 ⟨rfl, hb1⟩
  have H1 := Lib.hid hb1
  have co1 := And.intro (bc hb1 co.1) (bc hb1 co.2)
  have q1 := HV.out.2.1.below hb1 (Nat.le_refl _)
  have hh2 := has_any q1 (on, false) (HV.out.2.1.ok _ HQ.out.2.2.1).1
  rw [decide_eq_true HQ.out.2.2.1] at hh2
  clear hb1 hh1 q1 ck2 co
  go_wp2_with fail
  refine hh2.mono ?_
  rintro e V2 ⟨rfl, hb2⟩
  have hb2' : Below V.heap.size V V2 := H1.out.trans (hb2.mono H1.out.size)
  have H2 := Lib.hid hb2'
  have ck := And.intro (bc hb2' HV.out.2.2.1.1) (bc hb2' HV.out.2.2.1.2)
  have co := And.intro (bc hb2' HV.out.2.2.2.1) (bc hb2' HV.out.2.2.2.2)
  have q2 := HV.out.2.1.below hb2' (Nat.le_refl _)
  have hs := stands_any q2 (on, false) (k, false) HQ.out.2.2.1 HQ.out.2.1 HQ.out.2.2.2
  have heq := eql_id (k, false) (on, false)
  have bw : Below w.heap.size w V2 := HV.out.1.trans (hb2'.mono HV.out.1.size)
  have HQ2 := Lib.hid (And.intro q2 bw)
  unfold ek kv at heq
  clear co1 hh2 hb2 hb2' q2 H1 bw
  by_cases hxo : ((k, false) : Id) = (on, false)
  · rw [decide_eq_true hxo] at heq
    have HX := Lib.hid hxo
    clear hxo hs
    go_wp2_with fail
    go_ret
    exact ⟨9, by simp, E, HQ2.out.1, (Fr.of_below HQ2.out.2), .inl ⟨rfl, rfl, .inl HX.out⟩⟩
  · rw [decide_eq_false hxo] at heq
    have HX := Lib.hid hxo
    clear hxo
    go_wp2_with fail
    refine hs.mono ?_
    rintro e V3 ⟨⟨b, rfl, hbR⟩, hb3⟩
    have q3 := HQ2.out.1.below hb3 (Nat.le_refl _)
    have bw3 : Below w.heap.size w V3 := HQ2.out.2.trans (hb3.mono HQ2.out.2.size)
    have H3 := Lib.hid (And.intro q3 (And.intro bw3 hbR))
    have ck3 := And.intro (bc hb3 ck.1) (bc hb3 ck.2)
    have co3 := And.intro (bc hb3 co.1) (bc hb3 co.2)
    clear hs ck co hb3 hbR bw3
    cases b with
    | true =>
      clear q3
      go_wp2_with fail
      go_ret
      exact ⟨9, by simp, E, H3.out.1, Fr.of_below H3.out.2.1, .inl ⟨rfl, rfl, .inr (H3.out.2.2.1 (by simp))⟩⟩
    | false =>
      have c0 := q3.cell
      have lk : ∀ Z, Below V3.heap.size V3 Z → (Instr.lookup 40 (.map mv) (.agg #[.int .i64 k, .bool false]) false).run Try.prog Z = .ok (.pointer (some ⟨nb (k, false), 0, none⟩)) Z := fun Z h => by
        have := q3.look (Y := Z) (fun b e => h.block b (q3.size b (q3.ownM b e))) (q3.ok _ HQ.out.2.1).1
        rw [if_pos HQ.out.2.1] at this; exact this
      have nd := (q3.nodeC HQ.out.2.1).2.1
      obtain ⟨n0, hO⟩ := q3.on (k, false) HQ.out.2.1
      have ls : ∀ Z, Below V3.heap.size V3 Z → (Instr.lookup 49 (.map (some (ob (k, false)))) (.agg #[.int .i64 on, .bool false]) true).run Try.prog Z = .ok (.tuple #[.agg #[], .bool (E (k, false) (on, false))]) Z := fun Z h => by
        have := hO.look kindS (Y := Z) (h.block _ hO.lt) (q3.ok _ HQ.out.2.2.1).1
        rw [sf_getD, sf_some] at this
        exact this
      have nR : ¬ (((k, false) : Id) = (on, false) ∨ Re E (on, false) (k, false)) := fun e => e.elim HX.out fun e => by have := H3.out.2.2.2 e; cases this
      have hjn := fun Z (h : Below V3.heap.size V3 Z) => join_any (q3.below h (Nat.le_refl _)) (k, false) (on, false) HQ.out.2.1 HQ.out.2.2.1 (by have := HQ.out.2.2.2; omega)
      have HJ := Lib.hid hjn
      clear hjn
      have NR := Lib.hid nR
      clear hO nR q3
      generalize nb (k, false) = nk at *
      generalize ob (k, false) = okk at *
      obtain ⟨e0, he0⟩ : ∃ e0, e0 = E (k, false) (on, false) := ⟨_, rfl⟩
      rw [← he0] at ls
      have HE := Lib.hid he0
      clear he0
      go_wp2_with fail
      refine begin' 16 (fun Z => Below V3.heap.size V3 Z) hmix ((Below.refl _ V3).drew) (fun hS0 => ?_)
      refine Ht.takeD 8 (i := 0) ⟨some 37, _, _, _, _, _⟩ (.pointer (some ⟨gb, 0, none⟩)) rfl (by kernel_rfl) (by kernel_rfl) (by decide) (by kernel_rfl) (by kernel_rfl) (by kernel_rfl) hS0 (Or.inl ⟨by rfl, by (intro X hX; go_simp)⟩) ?_
      simp only [Act.put, List.setIfInBounds_toArray, List.set_cons_zero, List.set_cons_succ]
      refine Ht.takeD 8 (i := 1) ⟨some 38, _, _, _, _, _⟩ (.pointer (some ⟨gb, 0, none⟩)) rfl (by kernel_rfl) (by kernel_rfl) (by decide) (by kernel_rfl) (by kernel_rfl) (by kernel_rfl) hS0 (Or.inl ⟨by rfl, by (intro X hX; go_simp)⟩) ?_
      simp only [Act.put, List.setIfInBounds_toArray, List.set_cons_zero, List.set_cons_succ]
      refine Ht.takeD 8 (i := 2) ⟨some 39, _, _, _, _, _⟩ (.pointer (some ⟨gb, 0, none⟩)) rfl (by kernel_rfl) (by kernel_rfl) (by decide) (by kernel_rfl) (by kernel_rfl) (by kernel_rfl) hS0 (Or.inl ⟨by rfl, by (intro X hX; go_simp)⟩) ?_
      simp only [Act.put, List.setIfInBounds_toArray, List.set_cons_zero, List.set_cons_succ]
      refine Ht.takeD 8 (i := 3) ⟨some 40, _, _, _, _, _⟩ (.map mv) rfl (by kernel_rfl) (by kernel_rfl) (by decide) (by kernel_rfl) (by kernel_rfl) (by kernel_rfl) hS0 (Or.inl ⟨by rfl, by (intro X hX; have := bc hX c0; go_simp)⟩) ?_
      simp only [Act.put, List.setIfInBounds_toArray, List.set_cons_zero, List.set_cons_succ]
      refine Ht.takeD 8 (i := 4) ⟨some 41, _, _, _, _, _⟩ (.agg #[.int .i64 k, .bool false]) rfl (by kernel_rfl) (by kernel_rfl) (by decide) (by kernel_rfl) (by kernel_rfl) (by kernel_rfl) hS0 (Or.inl ⟨by rfl, by (intro X hX; have := And.intro (bc hX ck3.1) (bc hX ck3.2); go_simp)⟩) ?_
      simp only [Act.put, List.setIfInBounds_toArray, List.set_cons_zero, List.set_cons_succ]
      refine Ht.takeD 8 (i := 5) ⟨some 42, _, _, _, _, _⟩ (.pointer (some ⟨nk, 0, none⟩)) rfl (by kernel_rfl) (by kernel_rfl) (by decide) (by kernel_rfl) (by kernel_rfl) (by kernel_rfl) hS0 (Or.inl ⟨by rfl, by (intro X hX; have := lk X hX; go_simp)⟩) ?_
      simp only [Act.put, List.setIfInBounds_toArray, List.set_cons_zero, List.set_cons_succ]
      refine Ht.takeD 8 (i := 6) ⟨some 43, _, _, _, _, _⟩ (.pointer (some ⟨nk, 0, none⟩)) rfl (by kernel_rfl) (by kernel_rfl) (by decide) (by kernel_rfl) (by kernel_rfl) (by kernel_rfl) hS0 (Or.inl ⟨by rfl, by (intro X hX; go_simp)⟩) ?_
      simp only [Act.put, List.setIfInBounds_toArray, List.set_cons_zero, List.set_cons_succ]
      refine Ht.takeD 8 (i := 7) ⟨some 44, _, _, _, _, _⟩ (.pointer (some ⟨nk, 1, none⟩)) rfl (by kernel_rfl) (by kernel_rfl) (by decide) (by kernel_rfl) (by kernel_rfl) (by kernel_rfl) hS0 (Or.inl ⟨by rfl, by (intro X hX; go_simp)⟩) ?_
      simp only [Act.put, List.setIfInBounds_toArray, List.set_cons_zero, List.set_cons_succ]
      refine Ht.takeD 8 (i := 8) ⟨some 45, _, _, _, _, _⟩ (.map (some okk)) rfl (by kernel_rfl) (by kernel_rfl) (by decide) (by kernel_rfl) (by kernel_rfl) (by kernel_rfl) hS0 (Or.inl ⟨by rfl, by (intro X hX; have := bc hX nd; go_simp)⟩) ?_
      simp only [Act.put, List.setIfInBounds_toArray, List.set_cons_zero, List.set_cons_succ]
      refine Ht.takeD 8 (i := 9) ⟨some 46, _, _, _, _, _⟩ (.agg #[.int .i64 on, .bool false]) rfl (by kernel_rfl) (by kernel_rfl) (by decide) (by kernel_rfl) (by kernel_rfl) (by kernel_rfl) hS0 (Or.inl ⟨by rfl, by (intro X hX; have := And.intro (bc hX co3.1) (bc hX co3.2); go_simp)⟩) ?_
      simp only [Act.put, List.setIfInBounds_toArray, List.set_cons_zero, List.set_cons_succ]
      refine Ht.takeD 8 (i := 10) ⟨some 47, _, _, _, _, _⟩ (.tuple #[.agg #[], .bool e0]) rfl (by kernel_rfl) (by kernel_rfl) (by decide) (by kernel_rfl) (by kernel_rfl) (by kernel_rfl) hS0 (Or.inl ⟨by rfl, by (intro X hX; have := ls X hX; go_simp)⟩) ?_
      simp only [Act.put, List.setIfInBounds_toArray, List.set_cons_zero, List.set_cons_succ]
      refine Ht.takeD 8 (i := 11) ⟨some 36, _, _, _, _, _⟩ (.tuple #[.agg #[], .bool e0]) rfl (by kernel_rfl) (by kernel_rfl) (by decide) (by kernel_rfl) (by kernel_rfl) (by kernel_rfl) hS0 (Or.inl ⟨by rfl, by (intro X hX; go_simp)⟩) ?_
      simp only [Act.put, List.setIfInBounds_toArray, List.set_cons_zero, List.set_cons_succ]
      refine Ht.takeD 8 (i := 12) ⟨some 48, _, _, _, _, _⟩ (.agg #[]) rfl (by kernel_rfl) (by kernel_rfl) (by decide) (by kernel_rfl) (by kernel_rfl) (by kernel_rfl) hS0 (Or.inl ⟨by rfl, by (intro X hX; go_simp)⟩) ?_
      simp only [Act.put, List.setIfInBounds_toArray, List.set_cons_zero, List.set_cons_succ]
      refine Ht.takeD 8 (i := 13) ⟨some 49, _, _, _, _, _⟩ (.bool e0) rfl (by kernel_rfl) (by kernel_rfl) (by decide) (by kernel_rfl) (by kernel_rfl) (by kernel_rfl) hS0 (Or.inl ⟨by rfl, by (intro X hX; go_simp)⟩) ?_
      simp only [Act.put, List.setIfInBounds_toArray, List.set_cons_zero, List.set_cons_succ]
      have b1 : Below V3.heap.size V3 (V3.drew.alloc (.cells #[] 56)) := (Below.refl _ V3).drew.alloc (Nat.le_refl _) _
      refine Ht.step (i := 14) ⟨some 9, _, _, _, _, _⟩ rfl (by kernel_rfl) (by rfl) (fun K hK => ?_)
      go_simp
      refine hK _ _ (fun hn => b1) (fun hnx => ?_)
      clear hK K hnx
      try simp only [Act.put, List.setIfInBounds_toArray, List.set_cons_zero, List.set_cons_succ]
      refine Ht.step (i := 15) ⟨none, _, _, _, _, _⟩ rfl (by kernel_rfl) (by rfl) (fun K hK => ?_)
      go_simp
      refine hK _ _ (fun hn => b1) (fun hnx => ?_)
      clear hK K hnx
      try simp only [Act.put, List.setIfInBounds_toArray, List.set_cons_zero, List.set_cons_succ]
      refine Ht.step (i := 16) ⟨some 10, _, _, _, _, _⟩ rfl (by kernel_rfl) (by rfl) (fun K hK => ?_)
      go_simp
      refine hK _ _ (fun hn => absurd rfl hn) (fun hnx => ?_)
      clear hK K hnx
      try simp only [Act.put, List.setIfInBounds_toArray, List.set_cons_zero, List.set_cons_succ]
      refine done (by kernel_rfl) ?_
      clear hS0 lk ls c0 nd
      obtain ⟨Z, hZ⟩ : ∃ Z, Z = V3.drew.alloc (.cells #[] 56) := ⟨_, rfl⟩
      have ckZ := And.intro (bc b1 ck3.1) (bc b1 ck3.2)
      have coZ := And.intro (bc b1 co3.1) (bc b1 co3.2)
      rw [← hZ] at b1 ckZ coZ
      change Exit.then _ _ _ _ (V3.drew.alloc (.cells #[] 56))
      rw [← hZ]
      clear hZ ck3 co3
      cases e0 with
      | true =>
        go_wp2_with fail
        go_ret
        exact ⟨8, by simp, E, H3.out.1.below b1 (Nat.le_refl _), Fr.of_below (H3.out.2.1.trans (b1.mono H3.out.2.1.size)), .inr (.inl ⟨rfl, rfl, NR.out, HE.out.symm⟩)⟩
      | false =>
        have hjn := HJ.out Z b1
        go_wp2_with fail
        refine hjn.mono ?_
        rintro e V4 ⟨rfl, hq4, hf4⟩
        have H4 := Lib.hid (And.intro hq4 hf4)
        clear hq4 hf4 hjn
        go_wp2_with fail
        go_ret
        exact ⟨0, by simp, _, H4.out.1, (Fr.of_below (H3.out.2.1.trans (b1.mono H3.out.2.1.size))).trans H4.out.2 (fun k hk => .inl hk), .inr (.inr ⟨rfl, rfl, NR.out, HE.out.symm⟩)⟩
end
end Go.Proofs.Ytmlmacplkfnhkaa.DgA

