
/- wheels: Turn, New, Now, Len, At -/
import Derived.Test.YtcafiehlhdoibaaWh10
import Derived.Test.YtcafiehlhdoibaaWhZ
namespace Go.Proofs.Ytcafiehlhdoibaa.Wh
open Go.RowKit Go.Lib Go.Sort Go.Maps Hp Ht
set_option linter.unusedVariables false
set_option maxRecDepth 20000
section
variable {S : Nat → Prop} {w : World} {wb : Nat} {now : Int} {most : Nat} {m : List (K × Int)}
theorem len_parts (m : List (K × Int)) (p : K × Int → Bool) : (m.filter p).length + (m.filter fun x => !p x).length = m.length := by
  induction m with
  | nil => rfl
  | cons x m ih =>
    by_cases e : p x = true
    · simp [e]; omega
    · simp [e]; omega
theorem turn_any (hq : Wv S w wb now most m) (hn : m.length ≤ 400000) {to : Int} (hto : Tk to) (hle : now ≤ to) : Calls Try.prog 20 #[.pointer (some ⟨wb, 0, none⟩), .int .i64 to] w fun e w' =>
    ∃ v ls S', e = .returned (.tuple #[v, .int .i64 0]) ∧ ls.Perm (m.filter fun x => decide (x.2 ≤ to)) ∧ Srt ls ∧ Src w' v ls ∧ (∀ a n c, v = .slice (some a) n c → w.heap.size ≤ a.block ∧ a.block < w'.heap.size ∧ ¬ S' a.block) ∧
      Wv S' w' wb to most (m.filter fun x => decide (to < x.2)) ∧ (∀ x, S' x → S x ∨ w.heap.size ≤ x) ∧ Fr S w w' := by
  obtain ⟨ab, sv, f, q, hL⟩ := hq
  refine (turn_core q hn hto hle).mono ?_
  rintro e w' ⟨v, row, sv', n', f', h', told, ls, X, W0, rfl, s1, s2, s3, hrow, T, s4, frw⟩
  have hin : ∀ k t, (k, t) ∈ row ↔ f k = some t ∧ pc now t ≤ pc now to := fun k t => by rw [hrow.2, dn_some]; constructor <;> rintro ⟨a, b⟩ <;> exact ⟨a, by omega⟩
  have hlow : ∀ k t, f k = some t → t ≤ to → (k, t) ∈ row := fun k t e e2 => (hin k t).2 ⟨e, pc_mono q.tick hto e2⟩
  have hff : ∀ k t, f' k = some t ↔ f k = some t ∧ to < t := fun k t => by
    rw [T.ff, List.take_length]
    constructor
    · rintro ⟨e1, e2⟩
      refine ⟨e1, ?_⟩
      rcases Int.lt_or_le to t with h | h
      · exact h
      · exact absurd ⟨hlow k t e1 h, h⟩ e2
    · rintro ⟨e1, e2⟩
      exact ⟨e1, fun e3 => by omega⟩
  have hhh : ∀ k t, h' k = some t ↔ f k = some t ∧ to < t := fun k t => by
    rw [T.hh, List.take_length, frm_some]
    constructor
    · rintro (⟨e1, e2⟩ | ⟨e1, e2⟩)
      · exact ⟨e1, (pc_turn q.tick hto (q.okf k t e1).2 hle (by omega)).1⟩
      · exact ⟨((hin k t).1 e1).1, e2⟩
    · rintro ⟨e1, e2⟩
      by_cases e3 : pc now t ≤ pc now to
      · exact .inr ⟨(hin k t).2 ⟨e1, e3⟩, e2⟩
      · exact .inl ⟨e1, by omega⟩
  have hfe : h' = f' := ext_some fun k t => by rw [hff, hhh]
  subst hfe
  have hLr : Ls h' (m.filter fun x => decide (to < x.2)) := hL.filter _ _ fun k t => by rw [hff]; simp
  have hn' : n' = (m.filter fun x => decide (to < x.2)).length := by
    obtain ⟨l, h1, h2⟩ := T.q.cnt
    rw [← h2]
    exact (h1.same hLr).length_eq
  have hLt : told.Perm (m.filter fun x => decide (x.2 ≤ to)) := by
    have h1 : Ls (fun k => (f k).filter fun t => decide (t ≤ to)) (m.filter fun x => decide (x.2 ≤ to)) := hL.filter _ _ fun k t => by simp [Option.filter_eq_some_iff]
    have h2 : Ls (fun k => (f k).filter fun t => decide (t ≤ to)) told := by
      rw [T.tell, List.take_length]
      refine hrow.filter _ _ fun k t => ?_
      rw [dn_some]
      simp only [Option.filter_eq_some_iff, decide_eq_true_eq]
      constructor
      · rintro ⟨e1, e2⟩
        exact ⟨⟨e1, by have := ((hin k t).1 (hlow k t e1 e2)).2; omega⟩, e2⟩
      · rintro ⟨⟨e1, _⟩, e2⟩
        exact ⟨e1, e2⟩
    exact h2.same h1
  have hnb : ∀ k, Bs wb ab sv' k → v.ownBlock ≠ some k := fun k hk e => by
    obtain ⟨_, _, cur, h3⟩ := own_cell T.own e
    exact T.q.not_row h3 hk
  have qw : Wq (Bs wb ab sv') w' wb ab sv' to most n' h' h' := T.q.kept s4.size fun k hk => s4.block k (T.q.size k hk) (hnb k hk)
  have fr1 : Fr S w w' := (frw.trans T.fr fun x hx => .inl hx).trans s4 fun x hx => .inr (by have := (own_cell T.own hx).1; have := frw.size; omega)
  refine ⟨v, ls, Bs wb ab sv', rfl, s1.trans hLt, s2, s3, fun a n c e => ?_, ⟨ab, sv', h', hn' ▸ qw, hLr⟩, fun x hx => ?_, fr1⟩
  · have e2 : v.ownBlock = some a.block := by rw [e]; rfl
    have h1 := own_cell T.own e2
    refine ⟨Nat.le_trans frw.size h1.1, Nat.lt_of_lt_of_le h1.2.1 s4.size, fun e3 => hnb _ e3 e2⟩
  · rcases T.sub x hx with h | h
    · exact .inl h
    · exact .inr (Nat.le_trans frw.size h)
theorem turn_range (hq : Wv S w wb now most m) {to : Int} (hto : to < now ∨ MT < to) : Calls Try.prog 20 #[.pointer (some ⟨wb, 0, none⟩), .int .i64 to] w fun e w' => e = .returned (.tuple #[.slice none 0 0, .int .i64 3]) ∧ w' = w := by
  obtain ⟨ab, sv, f, q, hL⟩ := hq
  have c0 := q.cell.1
  have hn := q.tick.2
  clear q hL
  unfold MT at *
  rcases Int.lt_or_le to now with h | h
  · clear hto
    go_enter Try.func20, Try.ntmps20
    go_wp2_with fail
    refine bodyPost_ret (results_tmp2 rfl _ _ _) rfl ?_
    exact ⟨by simp, rfl⟩
  · have h2 : 1099511627776 < to := by omega
    clear hto
    go_enter Try.func20, Try.ntmps20
    go_wp2_with fail
    refine bodyPost_ret (results_tmp2 rfl _ _ _) rfl ?_
    exact ⟨by simp, rfl⟩
theorem now_any (hq : Wv S w wb now most m) : Calls Try.prog 10 #[.pointer (some ⟨wb, 0, none⟩)] w fun e w' => e = .returned (.int .i64 now) ∧ w' = w := by
  obtain ⟨ab, sv, f, q, hL⟩ := hq
  have c0 := q.cell.1
  clear q hL
  go_enter Try.func10, Try.ntmps10
  go_wp2_with fail
  go_ret
  exact ⟨by simp, rfl⟩
theorem len_any (hq : Wv S w wb now most m) : Calls Try.prog 11 #[.pointer (some ⟨wb, 0, none⟩)] w fun e w' => e = .returned (.int .i64 ((m.length : Nat) : Int)) ∧ w' = w := by
  obtain ⟨ab, sv, f, q, hL⟩ := hq
  have c0 := q.cell.2.2.1
  have hlen := fun (W : World) (e : W.heap[ab]? = w.heap[ab]?) ty => q.at'.len kindA e ty
  have hl0 := fun ty => hlen w rfl ty
  clear q hL hlen
  generalize m.length = n at *
  go_enter Try.func11, Try.ntmps11
  go_wp2_with fail
  go_ret
  exact ⟨by simp, rfl⟩
theorem Wv.at_ (hq : Wv S w wb now most m) {f : K → Option Int} (hf : Ls f m) : ∃ ab sv, Wq S w wb ab sv now most m.length f f := by
  obtain ⟨ab, sv, f', q, hL⟩ := hq
  have : f = f' := ext_some fun k t => by rw [← hf.2, hL.2]
  subst this
  exact ⟨ab, sv, q⟩
theorem at_any (hq : Wv S w wb now most m) {f : K → Option Int} (hf : Ls f m) {k : K} (hk : wk k) : Calls Try.prog 15 #[.pointer (some ⟨wb, 0, none⟩), ek k] w fun e w' => e = .returned (.tuple #[.int .i64 ((f k).getD 0), .bool (f k).isSome]) ∧ w' = w := by
  obtain ⟨ab, sv, q⟩ := hq.at_ hf
  have c0 := q.cell.2.2.1
  have hl0 := q.at'.look kindA rfl hk
  clear q hf hq
  generalize ek k = kv at *
  generalize (f k).getD 0 = a1 at *
  generalize (f k).isSome = b1 at *
  go_enter Try.func15, Try.ntmps15
  go_wp2_with fail
  refine bodyPost_ret (results_tmp2 rfl _ _ _) rfl ?_
  exact ⟨by simp, rfl⟩
end
/-- a wheel that was just built -/
theorem wq_new {Y : World} {wb ab n : Nat} {now : Int} {most : Nat} {f : K → Option Int} {C : Array Value} (h1 : Y.heap[wb]? = some (.cells C 67 (0, 0)))
    (hC : C.size = 452 ∧ C[0]? = some (.int .i64 now) ∧ C[1]? = some (.int .i64 ((most : Nat) : Int)) ∧ C[2]? = some (.map (some ab)) ∧ ∀ s, s < 449 → C[3 + s]? = some (.map none)) (h2 : Mq Y ab n f) (ok : ∀ k t, f k = some t → wk k ∧ Tk t) (hc : ∃ l, Ls f l ∧ l.length = n) (ht : Tk now) :
    Wq (Bs wb ab fun _ => none) Y wb ab (fun _ => none) now most n f (fun _ => none) where
  obj := ⟨_, h1, hC⟩
  at' := h2
  slot s hs k := rfl
  dist s s' b _ _ e := by cases e
  apart s b _ e := by cases e
  ownW := .inl rfl
  ownA := .inr (.inl rfl)
  ownS s b _ e := by cases e
  size k hk := by
    rcases hk with rfl | rfl | ⟨s, _, e⟩
    · exact (Array.getElem?_eq_some_iff.1 h1).1
    · exact h2.lt
    · cases e
  okf := ok
  sub k t e := by cases e
  tick := ht
  cnt := hc
theorem new_any (w : World) {now : Int} {most : Nat} (hn : Tk now) (h1 : 1 ≤ most) (h2 : most ≤ 65536) : Calls Try.prog 8 #[.int .i64 now, .int .i64 ((most : Nat) : Int)] w fun e w' =>
    ∃ wb S', e = .returned (.tuple #[.pointer (some ⟨wb, 0, none⟩), .int .i64 0]) ∧ Wv S' w' wb now most [] ∧ (∀ x, S' x → w.heap.size ≤ x) ∧ Below w.heap.size w w' := by
  have hi := isTick_any now w
  rw [decide_eq_true hn.1, decide_eq_true hn.2] at hi
  have a1 : (1 : Int) ≤ ((most : Nat) : Int) := by omega
  have a2 : ((most : Nat) : Int) ≤ 65536 := by omega
  have hmm := @run_makeMap Try.prog
  have hbo := run_box
  obtain ⟨Z, hz, hZ1, hZ2, hZ3⟩ := wcn_zero
  have HC := Lib.hid (And.intro (set_cells hZ1 hZ3 (.int .i64 now) (.int .i64 ((most : Nat) : Int)) (.map (some w.heap.size))) hn)
  have hZ4 : ¬ Z.size < 2 := by omega
  have hZ5 : ¬ Z.size < 3 := by omega
  clear hZ1 hZ3 h1 h2 hn
  go_enter Try.func8, Try.ntmps8
  go_wp2_with fail
  refine hi.mono ?_
  rintro e w1 ⟨rfl, rfl⟩
  go_wp2_with fail
  refine bodyPost_ret (results_tmp2 rfl _ _ _) rfl ?_
  obtain ⟨hC, hn⟩ := HC.out
  obtain ⟨C, hCe⟩ : ∃ C, C = (((Z.setIfInBounds 0 (.int .i64 now)).setIfInBounds 1 (.int .i64 ((most : Nat) : Int))).setIfInBounds 2 (.map (some w1.heap.size))) := ⟨_, rfl⟩
  rw [← hCe] at hC ⊢
  have g1 := MapKept.heap_alloc w1 (.map #[] 0)
  have g2 := MapKept.heap_alloc (w1.alloc (.map #[] 0)) (.cells C 67)
  have z1 : (w1.alloc (.map #[] 0)).heap.size = w1.heap.size + 1 := by simp
  rw [z1] at g2
  have hm : Mq ((w1.alloc (.map #[] 0)).alloc (.cells C 67)) w1.heap.size 0 (fun _ => none) := (mp_made kindA w1).kept (g2.2 _ (by omega))
  have hb : Below w1.heap.size w1 ((w1.alloc (.map #[] 0)).alloc (.cells C 67)) := ((Below.refl _ w1).alloc (Nat.le_refl _) _).alloc (by omega) _
  refine ⟨w1.heap.size + 1, _, by simp, ⟨w1.heap.size, _, _, wq_new g2.1 hC hm (fun k t e => by cases e) ⟨[], Ls.nil, rfl⟩ hn, Ls.nil⟩, fun x hx => ?_, hb⟩
  rcases hx with rfl | rfl | ⟨s, _, e⟩
  · omega
  · omega
  · cases e
theorem new_bad (w : World) {now most : Int} (hb : (now < 0 ∨ MT < now) ∨ most < 1 ∨ 65536 < most) : Calls Try.prog 8 #[.int .i64 now, .int .i64 most] w fun e w' => e = .returned (.tuple #[.pointer none, .int .i64 1]) ∧ w' = w := by
  have hi := isTick_any now w
  by_cases h1 : now < 0 ∨ MT < now
  · have e1 : (decide (0 ≤ now) && decide (now ≤ MT)) = false := by
      rcases h1 with h | h
      · simp; omega
      · simp; omega
    rw [e1] at hi
    clear hb e1
    go_enter Try.func8, Try.ntmps8
    go_wp2_with fail
    refine hi.mono ?_
    rintro e w1 ⟨rfl, rfl⟩
    go_wp2_with fail
    refine bodyPost_ret (results_tmp2 rfl _ _ _) rfl ?_
    exact ⟨by simp, rfl⟩
  · have e1 : (decide (0 ≤ now) && decide (now ≤ MT)) = true := by
      simp; omega
    rw [e1] at hi
    have hb2 : most < 1 ∨ 65536 < most := by
      rcases hb with h | h
      · exact absurd h h1
      · exact h
    clear hb e1
    rcases Int.lt_or_le most 1 with h | h
    · clear hb2
      go_enter Try.func8, Try.ntmps8
      go_wp2_with fail
      refine hi.mono ?_
      rintro e w1 ⟨rfl, rfl⟩
      go_wp2_with fail
      refine bodyPost_ret (results_tmp2 rfl _ _ _) rfl ?_
      exact ⟨by simp, rfl⟩
    · have h3 : 65536 < most := by omega
      clear hb2
      go_enter Try.func8, Try.ntmps8
      go_wp2_with fail
      refine hi.mono ?_
      rintro e w1 ⟨rfl, rfl⟩
      go_wp2_with fail
      refine bodyPost_ret (results_tmp2 rfl _ _ _) rfl ?_
      exact ⟨by simp, rfl⟩
end Go.Proofs.Ytcafiehlhdoibaa.Wh
