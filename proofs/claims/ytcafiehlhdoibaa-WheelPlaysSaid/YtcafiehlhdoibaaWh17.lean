
/- wheels of one's own; the chapter's example -/
import Derived.Test.YtcafiehlhdoibaaWh13
namespace Go.Proofs.Ytcafiehlhdoibaa.Wh
open Go.RowKit Go.Lib Go.Sort Go.Maps Hp Ht
set_option linter.unusedVariables false
set_option maxRecDepth 20000
theorem srt_pair {l : List (K × Int)} (h : Srt l) : l.Pairwise fun a b => ltp b a = false := by
  rw [List.pairwise_iff_getElem]
  intro i j hi hj hij
  rw [← el_eq hi, ← el_eq hj]
  exact h i j hij hj
theorem srt_unique {l l' : List (K × Int)} (h : Srt l) (h' : Srt l') (p : l.Perm l') : l = l' := by
  refine List.Perm.eq_of_pairwise (le := fun a b => ltp b a = false) (fun a b _ _ e1 e2 => ?_) (srt_pair h) (srt_pair h') p
  rcases ltp_tri Hp.tot_str a b with e | e | e
  · rw [e] at e2; cases e2
  · exact e
  · rw [e] at e1; cases e1
/-- a wheel of one's own, from block B on, apart from the blocks N -/
def Ow (B : Nat) (N : Nat → Prop) (X : World) (wb : Nat) (now : Int) (most : Nat) (m : List (K × Int)) : Prop := ∃ S, Wv S X wb now most m ∧ ∀ x, S x → B ≤ x ∧ ¬ N x
/-- what such a wheel's acts may write -/
abbrev Fo (B : Nat) (N : Nat → Prop) (X Y : World) : Prop := Fr (fun x => B ≤ x ∧ ¬ N x) X Y
theorem Fo.below {B : Nat} {N : Nat → Prop} {w X Y : World} (h : Fo B N X Y) (b : Below B w X) (hB : B ≤ X.heap.size) : Below B w Y :=
  ⟨h.os.trans b.os, h.tape.trans b.tape, h.output.trans b.output, Nat.le_trans b.size h.size, fun k hk => (h.block k (by omega) (fun e => by omega)).trans (b.block k hk)⟩
theorem Fo.kept {B : Nat} {N : Nat → Prop} {X Y : World} (h : Fo B N X Y) {k : Nat} (hk : N k) (hN : k < X.heap.size) : Y.heap[k]? = X.heap[k]? := h.block k hN (fun e => e.2 hk)
theorem Fo.of_below {B : Nat} {N : Nat → Prop} {X Y : World} (b : Below X.heap.size X Y) : Fo B N X Y := Fr.of_below b
theorem Fo.trans {B : Nat} {N : Nat → Prop} {X Y Z : World} (h : Fo B N X Y) (k : Fo B N Y Z) : Fo B N X Z := Fr.trans h k fun _ e => .inl e
section
variable {B : Nat} {N : Nat → Prop} {X : World} {wb : Nat} {now : Int} {most : Nat} {m : List (K × Int)}
theorem Ow.fr {N' : Nat → Prop} {Y : World} (h : Ow B N X wb now most m) (f : Fo B N' X Y) (hd : ∀ x, B ≤ x → ¬ N x → N' x ∨ X.heap.size ≤ x) : Ow B N Y wb now most m := by
  obtain ⟨S, q, hs⟩ := h
  exact ⟨S, q.kept f.size fun k hk => f.block k (q.size k hk) (fun e => by
    rcases hd k (hs k hk).1 (hs k hk).2 with h1 | h1
    · exact e.2 h1
    · have := q.size k hk; omega), hs⟩
theorem Ow.below {Y : World} (h : Ow B N X wb now most m) (b : Below X.heap.size X Y) : Ow B N Y wb now most m := by
  obtain ⟨S, q, hs⟩ := h
  exact ⟨S, q.kept b.size fun k hk => b.block k (q.size k hk), hs⟩
theorem Ow.add {f : K → Option Int} (h : Ow B N X wb now most m) (hB : B ≤ X.heap.size) (hN : ∀ x, N x → x < X.heap.size) (hf : Ls f m) {k : K} {t : Int} (h1 : ¬ k = []) (hk : wk k) (ht : Tk t) (hn : f k = none) (hlt : m.length < most) (hm : m.length ≤ 900000) :
    Calls Try.prog 19 #[.pointer (some ⟨wb, 0, none⟩), ek k, .int .i64 t] X fun e Y => e = .returned (.int .i64 0) ∧ Ow B N Y wb now most (m ++ [(k, t)]) ∧ Fo B N X Y := by
  obtain ⟨S, q, hs⟩ := h
  refine (add_yes q hf h1 hk ht hn hlt hm).mono ?_
  rintro e Y ⟨rfl, S', q', hs', fr⟩
  refine ⟨rfl, ⟨S', q', fun x hx => ?_⟩, fr.mono fun x _ hx => hs x hx⟩
  rcases hs' x hx with h1 | h1
  · exact hs x h1
  · exact ⟨by omega, fun e => by have := hN x e; omega⟩
/-- the block that a slice leads to -/
def Sb (v : Value) (x : Nat) : Prop := ∃ a n c, v = .slice (some a) n c ∧ a.block = x
theorem Ow.turn (h : Ow B N X wb now most m) (hB : B ≤ X.heap.size) (hN : ∀ x, N x → x < X.heap.size) (hn : m.length ≤ 400000) {to : Int} (hto : Tk to) (hle : now ≤ to) : Calls Try.prog 20 #[.pointer (some ⟨wb, 0, none⟩), .int .i64 to] X fun e Y =>
    ∃ v ls, e = .returned (.tuple #[v, .int .i64 0]) ∧ ls.Perm (m.filter fun x => decide (x.2 ≤ to)) ∧ Srt ls ∧ Src Y v ls ∧ (∀ x, Sb v x → X.heap.size ≤ x ∧ x < Y.heap.size) ∧ Ow B (fun x => N x ∨ Sb v x) Y wb to most (m.filter fun x => decide (to < x.2)) ∧ Fo B N X Y := by
  obtain ⟨S, q, hs⟩ := h
  refine (turn_any q hn hto hle).mono ?_
  rintro e Y ⟨v, ls, S', rfl, h1, h2, h3, h4, h5, h6, h7⟩
  refine ⟨v, ls, rfl, h1, h2, h3, ?_, ⟨S', h5, fun x hx => ?_⟩, h7.mono fun x _ hx => hs x hx⟩
  · rintro x ⟨a, n, c, e, rfl⟩
    exact ⟨(h4 a n c e).1, (h4 a n c e).2.1⟩
  · have hne : ¬ Sb v x := by
      rintro ⟨a, n, c, e, rfl⟩
      exact (h4 a n c e).2.2 hx
    rcases h6 x hx with e | e
    · exact ⟨(hs x e).1, fun e2 => e2.elim (hs x e).2 hne⟩
    · exact ⟨by omega, fun e2 => e2.elim (fun e3 => by have := hN x e3; omega) hne⟩
theorem new_ow (w : World) {now : Int} {most : Nat} (hn : Tk now) (h1 : 1 ≤ most) (h2 : most ≤ 65536) : Calls Try.prog 8 #[.int .i64 now, .int .i64 ((most : Nat) : Int)] w fun e w' =>
    ∃ wb, e = .returned (.tuple #[.pointer (some ⟨wb, 0, none⟩), .int .i64 0]) ∧ Ow w.heap.size (fun _ => False) w' wb now most [] ∧ Below w.heap.size w w' := by
  refine (new_any w hn h1 h2).mono ?_
  rintro e w' ⟨wb, S', rfl, q, hs, hb⟩
  exact ⟨wb, rfl, ⟨S', q, fun x hx => ⟨hs x hx, fun e => e⟩⟩, hb⟩
end
theorem Src.kept' {X Y : World} {v : Value} {l : List (K × Int)} (h : Src X v l) (e : ∀ x, Sb v x → Y.heap[x]? = X.heap[x]?) : Src Y v l := h.kept fun a n c e2 => e a.block ⟨a, n, c, e2, rfl⟩
/-- the first one of a row that isn't empty -/
theorem src_first {X : World} {v : Value} {x : K × Int} {l : List (K × Int)} (h : Src X v (x :: l)) : ∃ g c, v = .slice (some ⟨g, 0, none⟩) (l.length + 1) c ∧ X.cell? ⟨g, 0, none⟩ = some (ek x.1) := by
  rcases h with ⟨h, _⟩ | ⟨g, c, h1, h2⟩
  · cases h
  · have := (h2 0 (by simp)).1
    rw [Nat.zero_mul] at this
    exact ⟨g, c, by simpa using h1, this⟩
set_option maxHeartbeats 4000000 in
theorem lives_any (w : World) : Calls Try.prog 7 #[] w fun e w' => e = .returned (.bool true) ∧ Below w.heap.size w w' := by
  have hN := new_ow w (now := 0) (most := 9) ⟨by decide, by decide⟩ (by decide) (by decide)
  have hwk1 : wk [98] := by unfold wk maxLen; decide
  have hwk2 : wk [97] := by unfold wk maxLen; decide
  have hwk3 : wk [99] := by unfold wk maxLen; decide
  have HK := Lib.hid (And.intro hwk1 (And.intro hwk2 hwk3))
  clear hwk1 hwk2 hwk3
  go_enter Try.func7, Try.ntmps7
  go_wp2_with fail
  refine hN.mono ?_
  rintro e w1 ⟨wb, rfl, o1, b1⟩
  have L0 : Ls (fun _ => none) [] := Ls.nil
  have L1 := L0.put (k := [98]) rfl 5
  have L2 := L1.put (k := [97]) (by simp [upd]) 5
  have a1 := o1.add b1.size (fun x e => e.elim) L0 (k := [98]) (t := 5) (by decide) HK.out.1 ⟨by decide, by decide⟩ rfl (by decide) (by decide)
  have HL := Lib.hid (And.intro L1 (And.intro L2 b1))
  clear L0 L1 L2 o1 b1 hN
  unfold ek at a1
  go_wp2_with fail
  refine a1.mono ?_
  rintro e w2 ⟨rfl, o2, f2⟩
  have b2 : Below w.heap.size w w2 := f2.below HL.out.2.2 HL.out.2.2.size
  have a2 := o2.add b2.size (fun x e => e.elim) HL.out.1 (k := [97]) (t := 5) (by decide) HK.out.2.1 ⟨by decide, by decide⟩ (by simp [upd]) (by decide) (by decide)
  have H2 := Lib.hid b2
  clear o2 f2 a1 b2
  unfold ek at a2
  go_wp2_with fail
  refine a2.mono ?_
  rintro e w3 ⟨rfl, o3, f3⟩
  have b3 : Below w.heap.size w w3 := f3.below H2.out H2.out.size
  have a3 := o3.add b3.size (fun x e => e.elim) HL.out.2.1 (k := [99]) (t := 900000) (by decide) HK.out.2.2 ⟨by decide, by decide⟩ (by simp [upd]) (by decide) (by decide)
  have H3 := Lib.hid b3
  clear o3 f3 a2 b3
  unfold ek at a3
  go_wp2_with fail
  refine a3.mono ?_
  rintro e w4 ⟨rfl, o4, f4⟩
  have b4 : Below w.heap.size w w4 := f4.below H3.out H3.out.size
  have t1 := o4.turn b4.size (fun x e => e.elim) (by decide) (to := 5) ⟨by decide, by decide⟩ (by decide)
  have H4 := Lib.hid b4
  clear o4 f4 a3 b4
  go_wp2_with fail
  refine t1.mono ?_
  rintro e w5 ⟨v5, l5, rfl, p5, s5, r5, n5, o5, f5⟩
  have e5 : l5 = [([97], 5), ([98], 5)] := srt_unique s5 (by
    intro i j hij hj
    have : i = 0 ∧ j = 1 := by simp at hj; omega
    rw [this.1, this.2]
    decide) (p5.trans (List.Perm.swap _ _ _))
  subst e5
  have b5 : Below w.heap.size w w5 := f5.below H4.out H4.out.size
  have t2 := o5.turn b5.size (fun x e => e.elim (fun e => e.elim) (fun e => (n5 x e).2)) (by decide) (to := 1000000) ⟨by decide, by decide⟩ (by decide)
  have H5 := Lib.hid (And.intro b5 (And.intro r5 n5))
  obtain ⟨g5, c5, rfl, _⟩ := src_first r5
  clear o5 f5 t1 b5 p5 s5 r5 n5
  go_wp2_with fail
  refine t2.mono ?_
  rintro e w6 ⟨v6, l6, rfl, p6, s6, r6, n6, o6, f6⟩
  have e6 : l6 = [([99], 900000)] := List.Perm.eq_singleton p6
  subst e6
  have b6 : Below w.heap.size w w6 := f6.below H5.out.1 H5.out.1.size
  have r5 := H5.out.2.1.kept' fun x hx => f6.kept (.inr hx) (H5.out.2.2 x hx).2
  obtain ⟨g6, c6, rfl, k6⟩ := src_first r6
  obtain ⟨g5', c5', e5, k5⟩ := src_first r5
  cases e5
  have H6 := Lib.hid b6
  clear o6 f6 t2 b6 p6 s6 r6 n6 r5
  unfold ek at k5 k6
  dsimp only at k5 k6
  simp only [List.length_cons, List.length_nil] at *
  go_wp2_with fail
  go_ret
  exact ⟨by simp, H6.out⟩
end Go.Proofs.Ytcafiehlhdoibaa.Wh
