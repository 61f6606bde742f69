
/- quotas: Set, Give -/
import Derived.Test.YthbpgdeaaadlbaaQt3
namespace Go.Proofs.Ythbpgdeaaadlbaa.Qt
open Go.RowKit Go.Lib Go.Maps Go.WideElems Go.ChangeMaps Go.MapKept Hp
set_option linter.unusedVariables false
set_option linter.unusedSectionVars false
set_option maxRecDepth 20000

/-- one less -/
def less (H : K → Option Int) (k : K) : K → Option Int := if has H k = 1 then Hp.del H k else Hp.upd H k (has H k - 1)
theorem has_less (H : K → Option Int) (k k' : K) : has (less H k) k' = if k' = k then has H k - 1 else has H k' := by
  unfold less
  by_cases h : has H k = 1
  · rw [if_pos h]
    by_cases e : k' = k
    · subst e
      rw [if_pos rfl, h]
      unfold has Hp.del
      simp
    · rw [if_neg e]
      unfold has Hp.del
      simp [e]
  · rw [if_neg h]
    by_cases e : k' = k
    · subst e
      rw [if_pos rfl]
      generalize has H k' - 1 = x
      unfold has Hp.upd
      simp
    · rw [if_neg e]
      generalize has H k - 1 = x
      unfold has Hp.upd
      simp [e]
theorem has_upd (H : K → Option Int) (k k' : K) (x : Int) : has (Hp.upd H k x) k' = if k' = k then x else has H k' := by
  unfold has Hp.upd
  by_cases e : k' = k <;> simp [e]
theorem may_upd (ea : Int) (M : K → Option Int) (k k' : K) (x : Int) : may ea (Hp.upd M k x) k' = if k' = k then x else may ea M k' := by
  unfold may Hp.upd
  by_cases e : k' = k <;> simp [e]
section
variable {S : Nat → Prop} {w : World} {lb : Nat} {ea : Int} {mo ho : Option Nat} {nm nh c : Nat} {M H : K → Option Int}
theorem Set_bad (lb : Nat) (v : Value) (n : Int) (hn : ¬ (0 ≤ n ∧ n ≤ 128)) (w : World) : Calls Try.prog 9 #[.pointer (some ⟨lb, 0, none⟩), v, .int .i64 n] w fun e w' => e = .returned (.int .i64 1) ∧ w' = w := by
  have h := isCount_any n w
  rw [decide_eq_false hn] at h
  clear hn
  go_enter Try.func9, Try.ntmps9
  go_wp2_with fail
  refine h.mono ?_
  rintro e w' ⟨rfl, rfl⟩
  go_wp2_with fail
  go_ret
  exact ⟨rfl, rfl⟩
theorem Set_full (h : Lv S w lb ea nm c M H) (k : K) (hk : wk k) (n : Int) (hn : 0 ≤ n ∧ n ≤ 128) (hm : M k = none) (hf : 16 ≤ nm) : Calls Try.prog 9 #[.pointer (some ⟨lb, 0, none⟩), .string ⟨k.toArray⟩, .int .i64 n] w fun e w' => e = .returned (.int .i64 6) ∧ w' = w := by
  have hC := isCount_any n w
  rw [decide_eq_true hn] at hC
  obtain ⟨mo, ho, nh, q, hnh⟩ := h
  have c1 := q.cells.2.1
  have l1 := q.most.look (Y := w) (fun _ _ => rfl) hk
  have hl := fun ty => q.most.len (Y := w) (fun _ _ => rfl) ty
  rw [hm] at l1
  simp only [Option.getD_none, Option.isSome_none] at l1
  obtain ⟨z, hz⟩ : ∃ z : Int, z = ((nm : Nat) : Int) := ⟨_, rfl⟩
  have hzf : 16 ≤ z := by omega
  rw [← hz] at hl
  clear q hn hm hf hz
  go_enter Try.func9, Try.ntmps9
  go_wp2_with fail
  refine hC.mono ?_
  rintro e w' ⟨rfl, rfl⟩
  go_wp2_with fail
  go_ret
  exact ⟨rfl, rfl⟩
theorem Set_ok (h : Lv S w lb ea nm c M H) (k : K) (hk : wk k) (n : Int) (hn : 0 ≤ n ∧ n ≤ 128) (hf : (M k).isSome = true ∨ nm < 16) (hnm : nm ≤ 1000000) : Calls Try.prog 9 #[.pointer (some ⟨lb, 0, none⟩), .string ⟨k.toArray⟩, .int .i64 n] w fun e w' => e = .returned (.int .i64 0) ∧
    To S w w' lb ea (if (M k).isSome then nm else nm + 1) c (Hp.upd M k n) H := by
  have hC := isCount_any n w
  rw [decide_eq_true hn] at hC
  obtain ⟨mo, ho, nh, q, hnh⟩ := h
  have c1 := q.cells.2.1
  have f1 := q.frozen 1
  have l1 := q.most.look (Y := w) (fun _ _ => rfl) hk
  have hl := fun ty => q.most.len (Y := w) (fun _ _ => rfl) ty
  obtain ⟨z, hz⟩ : ∃ z : Int, z = ((nm : Nat) : Int) := ⟨_, rfl⟩
  rw [← hz] at hl
  obtain ⟨n2, hn2⟩ : ∃ n2, n2 = if (M k).isSome = true then nm else nm + 1 := ⟨_, rfl⟩
  rw [← hn2]
  obtain ⟨a, ha⟩ : ∃ a, a = (M k).isSome := ⟨_, rfl⟩
  obtain ⟨x, hx⟩ : ∃ x, x = (M k).getD 0 := ⟨_, rfl⟩
  have hzf : a = true ∨ z < 16 := by rw [ha]; exact hf.imp_right fun h => by omega
  rw [← ha, ← hx] at l1
  cases mo with
  | none =>
    have qn := q.newM
    obtain ⟨w2, r2, q2, fr2⟩ := qn.putM (by unfold maxLen; omega) hk (x := n) hn
    have fr1 := mk_fr q 1
    have c3 := qn.cells.2.1
    have h0 := q.most.1
    rw [← h0, ← hn2] at q2
    have HT : To S w w2 lb ea n2 c (Hp.upd M k n) H := ⟨_, ⟨_, _, _, q2, hnh⟩, fr1.trans fr2 (by
      rintro y (hy | rfl)
      · exact .inl hy
      · exact .inr (Nat.le_refl _)), by
      rintro y (hy | rfl)
      · exact .inl hy
      · exact .inr (Nat.le_refl _)⟩
    have HR := Lib.hid HT
    clear HT hn2
    have lbl := q.size lb q.own
    have cn : (w.alloc (.map #[] 0)).cell? ⟨lb, 1, none⟩ = some (.map none) := by
      have := Below.heap_alloc w (.map #[] 0) lb lbl
      unfold World.cell? at c1 ⊢; rw [this]; exact c1
    have fn : (w.alloc (.map #[] 0)).frozen? ⟨lb, 1, none⟩ = false := by
      have := Below.heap_alloc w (.map #[] 0) lb lbl
      unfold World.frozen? at f1 ⊢; rw [this]; exact f1
    unfold mkd at r2 c3
    clear q q2 qn fr1 fr2 hn hnh lbl hf hnm h0 hz ha hx
    have he := eql_none
    have hmk := make_map
    rcases Bool.eq_false_or_eq_true a with rfl | rfl
    all_goals
      try simp only [reduceCtorEq, false_or] at hzf
      go_enter Try.func9, Try.ntmps9
      go_wp2_with fail
      refine hC.mono ?_
      rintro e w' ⟨rfl, rfl⟩
      go_wp2_with fail
      go_ret
      exact ⟨rfl, HR.out⟩
  | some b =>
    obtain ⟨w2, r2, q2, fr2⟩ := q.putM (by unfold maxLen; omega) hk (x := n) hn
    rw [← hn2] at q2
    have HT : To S w w2 lb ea n2 c (Hp.upd M k n) H := ⟨_, ⟨_, _, _, q2, hnh⟩, fr2, fun _ h => .inl h⟩
    have HR := Lib.hid HT
    clear HT hn2
    clear q q2 fr2 hn hnh hf hnm hz ha hx
    have he := eql_some b
    rcases Bool.eq_false_or_eq_true a with rfl | rfl
    all_goals
      try simp only [reduceCtorEq, false_or] at hzf
      go_enter Try.func9, Try.ntmps9
      go_wp2_with fail
      refine hC.mono ?_
      rintro e w' ⟨rfl, rfl⟩
      go_wp2_with fail
      go_ret
      exact ⟨rfl, HR.out⟩
theorem Give_no (h : Lv S w lb ea nm c M H) (k : K) (hk : wk k) (hq : has H k = 0) : Calls Try.prog 11 #[.pointer (some ⟨lb, 0, none⟩), .string ⟨k.toArray⟩] w fun e w' => e = .returned (.int .i64 7) ∧ w' = w := by
  have h1 := h.Has k hk
  rw [hq] at h1
  clear h
  go_enter Try.func11, Try.ntmps11
  go_wp2_with fail
  refine h1.mono ?_
  rintro e w1 ⟨rfl, rfl⟩
  go_wp2_with fail
  go_ret
  exact ⟨rfl, rfl⟩
theorem Give_ok (h : Lv S w lb ea nm c M H) (k : K) (hk : wk k) (hq : has H k ≠ 0) (hc : c ≤ 1000000) : Calls Try.prog 11 #[.pointer (some ⟨lb, 0, none⟩), .string ⟨k.toArray⟩] w fun e w' => e = .returned (.int .i64 0) ∧
    To S w w' lb ea nm c M (less H k) := by
  have h1 := h.Has k hk
  have hb := h.has_bd k
  obtain ⟨mo, ho, nh, q, hn⟩ := h
  have c2 := q.cells.2.2
  have hs := hb.2.2.1 (by omega)
  cases ho with
  | none => rw [q.has.2 k] at hs; cases hs
  | some b =>
    unfold less
    by_cases h1x : has H k = 1
    · rw [if_pos h1x]
      obtain ⟨w2, r2, q2, fr2⟩ := q.dropH hk hs 0
      have HR := Lib.hid (And.intro q2 (And.intro fr2 hn))
      rw [h1x] at h1
      clear q q2 fr2 hn hb hs hq h1x
      go_enter Try.func11, Try.ntmps11
      go_wp2_with fail
      refine h1.mono ?_
      rintro e w1 ⟨rfl, rfl⟩
      go_wp2_with fail
      go_ret
      refine ⟨rfl, _, ⟨_, _, _, HR.out.1, ?_⟩, HR.out.2.1, fun _ h => .inl h⟩
      have := HR.out.2.2
      omega
    · rw [if_neg h1x]
      obtain ⟨w2, r2, q2, fr2⟩ := q.putH (by unfold maxLen; omega) hk (x := has H k - 1) (by omega)
      have l2 : (Instr.lookup 29 (.map (some b)) (.string ⟨k.toArray⟩) false).run Try.prog w = .ok (.int .i64 (has H k)) w := q.has.look1 (fun _ _ => rfl) hk
      rw [hs, if_pos rfl] at q2
      have HR := Lib.hid (And.intro q2 (And.intro fr2 hn))
      have b1 : 2 ≤ has H k := by omega
      have b2 := hb.2.1
      clear q q2 fr2 hn hb hs hq h1x
      generalize has H k = x at *
      have hw : wrap64 (x - 1) = x - 1 := by unfold wrap64; omega
      go_enter Try.func11, Try.ntmps11
      go_wp2_with fail
      refine h1.mono ?_
      rintro e w1 ⟨rfl, rfl⟩
      go_wp2_with fail
      go_ret
      exact ⟨rfl, _, ⟨_, _, _, HR.out.1, HR.out.2.2⟩, HR.out.2.1, fun _ h => .inl h⟩
end
end Go.Proofs.Ythbpgdeaaadlbaa.Qt
