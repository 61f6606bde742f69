
/- wheels: Add, Cut -/
import Derived.Test.YtcafiehlhdoibaaWh11
namespace Go.Proofs.Ytcafiehlhdoibaa.Wh
open Go.RowKit Go.Lib Go.Sort Go.Maps Hp Ht
set_option linter.unusedVariables false
set_option maxRecDepth 20000
section
variable {S : Nat → Prop} {w : World} {wb : Nat} {now : Int} {most : Nat} {m : List (K × Int)}
/-- what Add answers -/
def addE (most : Nat) (m : List (K × Int)) (f : K → Option Int) (k : K) (t : Int) : Int :=
  if k = [] ∨ ¬ (0 ≤ t ∧ t ≤ MT) then 1 else if (f k).isSome then 8 else if most ≤ m.length then 6 else 0
theorem add_bad (hq : Wv S w wb now most m) {k : K} {t : Int} (hb : k = [] ∨ ¬ (0 ≤ t ∧ t ≤ MT)) : Calls Try.prog 19 #[.pointer (some ⟨wb, 0, none⟩), ek k, .int .i64 t] w fun e w' => e = .returned (.int .i64 1) ∧ w' = w := by
  clear hq
  have hi := isTick_any t w
  unfold ek
  by_cases h1 : k = []
  · subst h1
    clear hb
    go_enter Try.func19, Try.ntmps19
    go_wp2_with fail
    go_ret
    exact ⟨by simp, rfl⟩
  · have e1 : (decide (0 ≤ t) && decide (t ≤ MT)) = false := by
      rcases hb with h | h
      · exact absurd h h1
      · simp; omega
    rw [e1] at hi
    clear hb e1
    have hke : List.isEmpty k = false := by simpa using h1
    go_enter Try.func19, Try.ntmps19
    go_wp2_with fail
    refine hi.mono ?_
    rintro e w1 ⟨rfl, rfl⟩
    go_wp2_with fail
    go_ret
    exact ⟨by simp, rfl⟩
set_option maxHeartbeats 1000000 in
theorem add_no (hq : Wv S w wb now most m) {f : K → Option Int} (hf : Ls f m) {k : K} {t : Int} (h1 : ¬ k = []) (hk : wk k) (ht : Tk t) {c : Int} (hc : ((f k).isSome = true ∧ c = 8) ∨ (f k = none ∧ most ≤ m.length ∧ c = 6)) (hm : m.length ≤ 1000000) :
    Calls Try.prog 19 #[.pointer (some ⟨wb, 0, none⟩), ek k, .int .i64 t] w fun e w' => e = .returned (.int .i64 c) ∧ ∃ d, w' = w.drewN d := by
  have hi := isTick_any t w
  rw [decide_eq_true ht.1, decide_eq_true ht.2] at hi
  obtain ⟨ab, sv, q⟩ := hq.at_ hf
  have c0 := q.cell.2.2.1
  have c1 := q.cell.2.1
  have hl0 := q.at'.look kindA rfl hk
  have hlen := fun (W : World) (e : W.heap[ab]? = w.heap[ab]?) ty => q.at'.len kindA e ty
  have hln := fun (n : Nat) ty => hlen (w.drewN n) rfl ty
  have hke : List.isEmpty k = false := by simpa using h1
  unfold ek at *
  clear q hf hq hlen hk ht
  rcases hc with ⟨e1, rfl⟩ | ⟨e1, e2, rfl⟩
  · rw [e1] at hl0
    generalize (f k).getD 0 = a1 at *
    clear hln c1 e1
    go_enter Try.func19, Try.ntmps19
    go_wp2_with fail
    refine hi.mono ?_
    rintro e w1 ⟨rfl, rfl⟩
    go_wp2_with fail
    go_ret
    exact ⟨by simp, 0, rfl⟩
  · rw [e1] at hl0
    have e3 : ((most : Nat) : Int) ≤ ((m.length : Nat) : Int) := by omega
    generalize m.length = n at *
    clear e1 e2
    go_enter Try.func19, Try.ntmps19
    go_wp2_with fail
    refine hi.mono ?_
    rintro e w1 ⟨rfl, rfl⟩
    go_wp2_with fail
    go_quiet (fail)
    go_wp2_with fail
    go_ret
    exact ⟨by simp, _, rfl⟩
set_option maxHeartbeats 2000000 in
theorem add_yes (hq : Wv S w wb now most m) {f : K → Option Int} (hf : Ls f m) {k : K} {t : Int} (h1 : ¬ k = []) (hk : wk k) (ht : Tk t) (hn : f k = none) (hlt : m.length < most) (hm : m.length ≤ 900000) :
    Calls Try.prog 19 #[.pointer (some ⟨wb, 0, none⟩), ek k, .int .i64 t] w fun e w' => e = .returned (.int .i64 0) ∧ ∃ S', Wv S' w' wb now most (m ++ [(k, t)]) ∧ (∀ x, S' x → S x ∨ w.heap.size ≤ x) ∧ Fr S w w' := by
  have hi := isTick_any t w
  rw [decide_eq_true ht.1, decide_eq_true ht.2] at hi
  obtain ⟨ab, sv, q⟩ := hq.at_ hf
  have c0 := q.cell.2.2.1
  have c1 := q.cell.2.1
  have hke : List.isEmpty k = false := by simpa using h1
  have hl0 := q.at'.look kindA rfl hk
  rw [hn] at hl0
  have hlen := fun (W : World) (e : W.heap[ab]? = w.heap[ab]?) ty => q.at'.len kindA e ty
  have hln := fun (n : Nat) ty => hlen (w.drewN n) rfl ty
  have e3 : ((m.length : Nat) : Int) < ((most : Nat) : Int) := by omega
  have HH := Lib.hid (And.intro q (And.intro hf (And.intro hk (And.intro ht (And.intro hn hm)))))
  unfold ek at *
  clear q hf hq hlen hk ht hn hlt hm
  generalize m.length = n at *
  go_enter Try.func19, Try.ntmps19
  go_wp2_with fail
  refine hi.mono ?_
  rintro e w1 ⟨rfl, rfl⟩
  go_wp2_with fail
  go_quiet (fail)
  rename_i nq
  obtain ⟨q, hf, hk, ht, hn, hm⟩ := HH.out
  obtain ⟨V, hV⟩ : ∃ V, V = w1.drewN nq := ⟨_, rfl⟩
  have qV : Wq S V wb ab sv now most n f f := by rw [hV]; exact q.kept (Nat.le_refl _) fun _ _ => rfl
  have hfV : Fr S w1 V := by rw [hV]; exact ⟨rfl, rfl, rfl, Nat.le_refl _, fun _ _ _ => rfl⟩
  have cV := qV.cell.2.2.1
  rw [← hV]
  clear hV c0 c1 hl0 hln q
  obtain ⟨V2, run2, hM2, hg2⟩ := qV.at'.put kindA (by unfold maxLen; omega) hk (wf_tk ht)
  rw [hn] at hM2
  have q2 : Wq S V2 wb ab sv now most (n + 1) (upd f k t) f := qV.setAt hM2 hg2 (fun k' t' e => by
      rcases upd_some.1 e with ⟨rfl, rfl⟩ | ⟨_, e2⟩
      · exact ⟨hk, ht⟩
      · exact qV.okf k' t' e2) (fun k' t' e => upd_some.2 (.inr ⟨fun e2 => (by rw [e2, hn] at e; cases e), e⟩)) (by
      obtain ⟨l, hl1, hl2⟩ := qV.cnt
      exact ⟨_, hl1.put hn t, by simp [hl2]⟩)
  have hP := put_any q2 (by omega) (k := k) (t := t) (by simp [upd]) hn
  have HX := Lib.hid (And.intro hf (And.intro hn (And.intro (hfV.trans (Fr.grown hg2 (S := S) (.inl q2.ownA)) fun x hx => .inl hx) hm)))
  clear qV hfV hM2 hg2 q2 hf hn hm
  unfold ek er at *
  go_wp2_with fail
  refine hP.mono ?_
  rintro e w3 ⟨rfl, S', sv', q3, s3, f3⟩
  have HZ := Lib.hid (And.intro q3 (And.intro s3 f3))
  clear q3 s3 f3 hP
  go_wp2_with fail
  go_ret
  obtain ⟨hf, hn, fr, hm⟩ := HX.out
  obtain ⟨q3, s3, f3⟩ := HZ.out
  obtain ⟨l, hl1, hl2⟩ := q3.cnt
  refine ⟨by simp, S', ⟨ab, sv', upd f k t, ?_, hf.put hn t⟩, fun x hx => ?_, fr.trans f3 fun x hx => .inl hx⟩
  · have : (m ++ [(k, t)]).length = n + 1 := by rw [← hl2]; exact (hl1.same (hf.put hn t)).length_eq.symm
    rw [this]; exact q3
  · rcases s3 x hx with h | h
    · exact .inl h
    · exact .inr (Nat.le_trans fr.size h)
set_option maxHeartbeats 2000000 in
theorem cut_any (hq : Wv S w wb now most m) {f : K → Option Int} (hf : Ls f m) {k : K} (hk : wk k) :
    Calls Try.prog 21 #[.pointer (some ⟨wb, 0, none⟩), ek k] w fun e w' => e = .returned (.bool (f k).isSome) ∧ ∃ S', Wv S' w' wb now most (m.filter fun x => x.1 ≠ k) ∧ (∀ x, S' x → S x) ∧ Fr S w w' := by
  have hA := at_any hq hf hk
  cases hfk : f k with
  | none =>
    rw [hfk] at hA
    have hm : (m.filter fun x => x.1 ≠ k) = m := by
      rw [List.filter_eq_self]
      intro x hx
      simp only [ne_eq, decide_not, Bool.not_eq_eq_eq_not, Bool.not_true, decide_eq_false_iff_not]
      intro e
      have := (hf.2 x.1 x.2).1 hx
      rw [e, hfk] at this; cases this
    rw [hm]
    have HQ := Lib.hid hq
    clear hq hf hm
    go_enter Try.func21, Try.ntmps21
    go_wp2_with fail
    refine hA.mono ?_
    rintro e w1 ⟨rfl, rfl⟩
    go_wp2_with fail
    go_ret
    exact ⟨by simp, S, HQ.out, fun x hx => hx, Fr.refl _ _⟩
  | some t =>
    rw [hfk] at hA
    obtain ⟨ab, sv, q⟩ := hq.at_ hf
    have htk := (q.okf k t hfk).2
    have hSl := slotOf_any q htk
    have HQ := Lib.hid (And.intro q (And.intro hf (And.intro hfk htk)))
    clear hq hf q hfk htk
    go_enter Try.func21, Try.ntmps21
    go_wp2_with fail
    refine hA.mono ?_
    rintro e w1 ⟨rfl, rfl⟩
    go_wp2_with fail
    refine hSl.mono ?_
    rintro e w2 ⟨rfl, dn2, rfl⟩
    obtain ⟨q, hf, hfk, htk⟩ := HQ.out
    clear hSl hA HQ
    obtain ⟨V, hV⟩ : ∃ V, V = w1.drewN dn2 := ⟨_, rfl⟩
    have qV : Wq S V wb ab sv now most m.length f f := by rw [hV]; exact q.kept (Nat.le_refl _) fun _ _ => rfl
    have hfV : Fr S w1 V := by rw [hV]; exact ⟨rfl, rfl, rfl, Nat.le_refl _, fun _ _ _ => rfl⟩
    rw [← hV]
    clear hV
    have hs9 := q.lt_pc htk
    have cs1 := qV.cell.2.2.2 _ hs9
    obtain ⟨b, hb⟩ : ∃ b, sv (pc now t) = some b := by
      cases e : sv (pc now t) with
      | some b => exact ⟨b, rfl⟩
      | none =>
        have h1 := qV.slot _ hs9
        rw [e] at h1
        have h2 := h1 k
        rw [show gs now f (pc now t) k = some t from gs_some.2 ⟨hfk, rfl⟩] at h2
        cases h2
    rw [hb] at cs1
    obtain ⟨n1, hm1⟩ := qV.slot_some hs9 hb
    obtain ⟨V2, run2, hM2, hg2⟩ := hm1.drop kindS hk (by rw [show gs now f (pc now t) k = some t from gs_some.2 ⟨hfk, rfl⟩]; rfl) 0
    have q2 : Wq S V2 wb ab sv now most m.length f (del f k) := qV.setSlot hs9 hb (by rw [gs_del hfk, if_pos rfl]; exact hM2) hg2 (fun s' _ hne => by rw [gs_del hfk, if_neg hne]) fun k' t' e => (del_some.1 e).2
    have c2 := q2.cell.2.2.1
    obtain ⟨V3, run3, hM3, hg3⟩ := q2.at'.drop kindA hk (by rw [hfk]; rfl) 0
    have hL := hf.cut k
    have hln : (m.filter fun x => x.1 ≠ k).length = m.length - 1 := by
      have hp : Ls f ((k, t) :: m.filter fun x => x.1 ≠ k) := by
        refine ⟨?_, fun k' t' => ?_⟩
        · rw [List.map_cons, List.nodup_cons]
          refine ⟨fun e => ?_, hL.1⟩
          obtain ⟨y, hy, e2⟩ := List.mem_map.1 e
          have := (List.mem_filter.1 hy).2
          simp only at e2
          simp [e2] at this
        · rw [List.mem_cons, hL.2, del_some]
          constructor
          · rintro (e | ⟨_, e⟩)
            · cases e; exact hfk
            · exact e
          · intro e
            by_cases e2 : k' = k
            · subst e2
              rw [hfk] at e
              cases e
              exact .inl rfl
            · exact .inr ⟨e2, e⟩
      have := (hf.same hp).length_eq
      simp only [List.length_cons] at this
      omega
    have q3 : Wq S V3 wb ab sv now most (m.length - 1) (del f k) (del f k) := q2.setAt hM3 hg3 (fun k' t' e => q2.okf k' t' (del_some.1 e).2) (fun k' t' e => e) ⟨_, hL, hln⟩
    have HZ := Lib.hid (And.intro q3 (And.intro hL (And.intro hln ((hfV.trans (Fr.grown hg2 (S := S) (.inl (qV.ownS _ b hs9 hb))) fun x hx => .inl hx).trans (Fr.grown hg3 (S := S) (.inl q2.ownA)) fun x hx => .inl hx))))
    clear q3 hL hln q2 hM2 hg2 hm1 hs9 qV hfV q hf hfk htk hM3 hg3 hb
    unfold ek at *
    go_wp2_with fail
    go_ret
    obtain ⟨q3, hL, hln, fr⟩ := HZ.out
    exact ⟨by simp, S, ⟨ab, sv, _, hln ▸ q3, hL⟩, fun x hx => hx, fr⟩
end
end Go.Proofs.Ytcafiehlhdoibaa.Wh
