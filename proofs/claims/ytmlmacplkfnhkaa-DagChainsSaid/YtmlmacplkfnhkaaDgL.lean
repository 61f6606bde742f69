
/- dag: the chapter's example, walked -/
import Derived.Test.YtmlmacplkfnhkaaDgQB
namespace Go.Proofs.Ytmlmacplkfnhkaa.DgB
open Go.RowKit Go.Lib Hp Mv Dg Ht
set_option linter.unusedVariables false
set_option maxRecDepth 20000
attribute [local go_sem] Oper.semAt_some
def iA : Id := ([97], false)
def iB : Id := ([98], false)
def iC : Id := ([99], false)
def eL : Id → Id → Bool := addL (addL (addL (fun _ _ => false) iA []) iB [[97]]) iC [[98]]
theorem eL_iff {x y : Id} : eL x y = true ↔ (x = iB ∧ y = iA) ∨ (x = iC ∧ y = iB) := by
  unfold eL
  rw [addL_iff, addL_iff, addL_iff]
  simp [iA, iB, iC]
theorem re_CA : Re eL iC iA := .more (.one (eL_iff.2 (.inr ⟨rfl, rfl⟩))) (eL_iff.2 (.inl ⟨rfl, rfl⟩))
theorem all_A (z : Id) : z ∈ [iB, iC] ↔ Re (fun a b => eL b a) iA z := by
  constructor
  · intro h
    simp only [List.mem_cons, List.not_mem_nil, or_false] at h
    rcases h with rfl | rfl
    · exact .one (eL_iff.2 (.inl ⟨rfl, rfl⟩))
    · exact .more (.one (eL_iff.2 (.inl ⟨rfl, rfl⟩))) (eL_iff.2 (.inr ⟨rfl, rfl⟩))
  · intro h
    obtain ⟨y, hy⟩ := h.last
    rcases eL_iff.1 hy with ⟨e, _⟩ | ⟨e, _⟩ <;> rw [e] <;> simp
theorem okA : okK [97] := by unfold okK maxLen; simp
theorem okB : okK [98] := by unfold okK maxLen; simp
theorem okC : okK [99] := by unfold okK maxLen; simp
theorem ks_one (S : Nat → Prop) (w : World) (k : List UInt8) (hs : ∀ j, S j → j < w.heap.size) : Ks S (w.alloc (.cells #[kv k] 9)) (.slice (some ⟨w.heap.size, 0, none⟩) 1 1) [k] := by
  refine .inr ⟨w.heap.size, 1, rfl, fun e => by have := hs _ e; omega, by simp, fun i k' hk => ?_⟩
  match i, hk with
  | 0, hk =>
    simp at hk
    rw [← hk]
    exact (cell_of_row _ _ 0 _ _ _ (MapKept.heap_alloc w (.cells #[kv k] 9)).1).trans rfl
  | i + 1, hk => simp at hk
/-- a graph of the call's own -/
structure Lv (w : World) (gb : Nat) (S : Nat → Prop) (X : World) (ns : List Id) (E : Id → Id → Bool) : Prop where
  b : Below w.heap.size w X
  own : ∀ k, S k → w.heap.size ≤ k
  q : Gd S X gb ns E
theorem Lv.step {w X Y : World} {gb : Nat} {S S' : Nat → Prop} {ns ns' : List Id} {E E' : Id → Id → Bool} (h : Lv w gb S X ns E) (q : Gd S' Y gb ns' E') (f : Fr S X Y) (n : ∀ k, S' k → S k ∨ X.heap.size ≤ k) : Lv w gb S' Y ns' E' :=
  ⟨below_fr h.b f h.own, fun k hk => (n k hk).elim (h.own k) (fun e => Nat.le_trans h.b.size e), q⟩
theorem Lv.below {w X Y : World} {gb : Nat} {S : Nat → Prop} {ns : List Id} {E : Id → Id → Bool} (h : Lv w gb S X ns E) (b : Below X.heap.size X Y) : Lv w gb S Y ns E :=
  ⟨h.b.trans (b.mono h.b.size), h.own, by obtain ⟨mv, nb, ob, ub, q⟩ := h.q; exact ⟨mv, nb, ob, ub, q.below b (Nat.le_refl _)⟩⟩
/-- one more, on one that is there -/
theorem Lv.add {w X : World} {gb : Nat} {S : Nat → Prop} {ns : List Id} {E : Id → Id → Bool} (h : Lv w gb S X ns E) (k o : List UInt8) (hk : okK k) (ho : okK o) (h1 : (k, false) ∉ ns) (h2 : (o, false) ∈ ns) (hn : ns.length ≤ 900000) :
    Calls Try.prog 11 #[.pointer (some ⟨gb, 0, none⟩), kv k, .slice (some ⟨X.heap.size, 0, none⟩) 1 1] (X.alloc (.cells #[kv o] 9)) fun e w' => e = .returned (.int .i64 0) ∧ ∃ S', Lv w gb S' w' (ns ++ [(k, false)]) (addL E (k, false) [o]) := by
  have h3 := h.below (below_new X (.cells #[kv o] 9))
  obtain ⟨mv, nb, ob, ub, q⟩ := h.q
  have q2 := q.below (below_new X (.cells #[kv o] 9)) (Nat.le_refl _)
  refine (add_any q2 k hk h1 _ [o] (ks_one S X o q.size) (by simpa using ho) (by simpa using h2) hn (by simp)).mono ?_
  rintro e w' ⟨rfl, S', g, f, n⟩
  exact ⟨rfl, S', h3.step g f n⟩
set_option maxHeartbeats 2000000 in
theorem lives11_any (w : World) : Calls Try.prog 4 #[] w fun e w' => e = .returned (.bool true) ∧ Below w.heap.size w w' := by
  go_enter Try.func4, Try.ntmps4
  go_wp2_with fail
  refine (new_any _).mono ?_
  rintro e W1 ⟨rfl, ⟨mv1, nb1, ob1, ub1, q1⟩, hb1⟩
  have l1 : Lv w w.heap.size (fun k => k = w.heap.size) W1 [] (fun _ _ => false) := ⟨hb1, fun k hk => by omega, ⟨mv1, nb1, ob1, ub1, q1⟩⟩
  have hA := add_any q1 [97] okA (by simp) (.slice none 0 0) [] (.inl ⟨rfl, rfl⟩) (by simp) (by simp) (by simp) (by simp)
  have H1 := Lib.hid l1
  clear hb1 q1 l1
  obtain ⟨gb, hgb⟩ : ∃ gb, gb = w.heap.size := ⟨_, rfl⟩
  have HG := Lib.hid hgb
  rw [← hgb] at hA ⊢
  clear hgb
  unfold kv at hA
  go_wp2_with fail
  refine hA.mono ?_
  rintro e W2 ⟨rfl, S2, g2, f2, n2⟩
  have l2 := (HG.out ▸ H1.out : Lv w gb (fun k => k = gb) W1 [] (fun _ _ => false)).step g2 f2 n2
  have hB := l2.add [98] [97] okB okA (by simp) (by simp) (by simp)
  have H2 := Lib.hid l2
  clear g2 f2 n2 l2 hA
  unfold kv at hB
  go_wp2_with fail
  refine hB.mono ?_
  rintro e W3 ⟨rfl, S3, l3⟩
  have hC := l3.add [99] [98] okC okB (by simp) (by simp) (by simp)
  have H3 := Lib.hid l3
  clear l3 hB
  unfold kv at hC
  go_wp2_with fail
  refine hC.mono ?_
  rintro e W4 ⟨rfl, S4, l4⟩
  obtain ⟨mv4, nb4, ob4, ub4, q4⟩ := l4.q
  have hL := link_any q4 [97] [99] (by simp) (by simp) (by simp)
  have H4 := Lib.hid (And.intro l4 q4)
  clear l4 q4 hC
  unfold kv at hL
  go_wp2_with fail
  refine hL.mono ?_
  rintro e W5 ⟨n5, rfl, E5, q5, f5, h5⟩
  have h9 : n5 = 9 ∧ E5 = eL := by
    rcases h5 with ⟨h1, h2, _⟩ | ⟨_, _, h3, _⟩ | ⟨_, _, h3, _⟩
    · exact ⟨h1, h2⟩
    · exact absurd (.inr re_CA) h3
    · exact absurd (.inr re_CA) h3
  obtain ⟨rfl, rfl⟩ := h9
  have l5 := H4.out.1.step ⟨_, _, _, _, q5⟩ f5 (fun k hk => .inl hk)
  have hAl := all_any q5 [97] (by simp) (by simp) [iB, iC] (by simp [iB, iC]) all_A (by simp)
  have H5 := Lib.hid l5
  clear l5 q5 f5 h5 hL
  unfold kv at hAl
  go_wp2_with fail
  refine hAl.mono ?_
  rintro e W6 ⟨⟨a6, c6, rfl⟩, hb6⟩
  have H6 := Lib.hid hb6
  clear hb6 hAl
  go_wp2_with fail
  go_ret
  exact ⟨by simp, H5.out.b.trans (H6.out.mono H5.out.b.size)⟩
end Go.Proofs.Ytmlmacplkfnhkaa.DgB
