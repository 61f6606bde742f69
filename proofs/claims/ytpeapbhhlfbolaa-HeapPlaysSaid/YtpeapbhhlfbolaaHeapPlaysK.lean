
/- HeapPlays: a heap beside pairs in a row, what each act makes of them -/
import Derived.Test.YtpeapbhhlfbolaaHpWA
import Derived.Test.YtpeapbhhlfbolaaHpRA
namespace Go.Proofs.Ytpeapbhhlfbolaa.HpA
open Go.RowKit Go.Lib Go.Sort Hp
set_option linter.unusedVariables false
set_option maxRecDepth 20000
theorem own_same {X Y : World} {B : Nat} {t : TypeId} {k n : Nat} {v : Value} {xs : List Value} (h : X.ownsRow B t k v n xs) (e : ∀ b, v.ownBlock = some b → Y.heap[b]? = X.heap[b]?) : Y.ownsRow B t k v n xs :=
  ⟨h.1, h.2.imp_right fun ⟨g, cap, cur, h1, h2, h3, h4⟩ => ⟨g, cap, cur, h1, h2, (e g (by rw [h1]; rfl)).trans h3, h4⟩⟩
theorem nodup_rank {m : List (K × Int)} (hn : (m.map (·.1)).Nodup) {i : Nat} (hi : i < m.length) {r : Int} (h : ((el m i).1, r) ∈ m) : r = (el m i).2 := by
  obtain ⟨j, hj, hje⟩ := mem_el h
  have h1 : (m.map (·.1))[j]'(by simpa using hj) = (m.map (·.1))[i]'(by simpa using hi) := by
    simp only [List.getElem_map]
    rw [← el_eq hj, ← el_eq hi, hje]
  have hp := List.pairwise_iff_getElem.1 (List.nodup_iff_pairwise_ne.1 hn)
  have h2 : j = i := by
    rcases Nat.lt_trichotomy j i with h | h | h
    · exact absurd h1 (hp j i _ _ h)
    · exact h
    · exact absurd h1.symm (hp i j _ _ h)
  subst h2
  rw [hje]
theorem cs_set {l : List (K × Int)} {i : Nat} (hi : i < l.length) (r : Int) : (cs l).set (i * 2 + 1) (er r) = cs (l.set i ((el l i).1, r)) := by
  refine ext_cs (by simp [cs_len]) fun j hj => ?_
  rw [List.length_set] at hj
  have h := cs_get l j hj
  rw [List.getElem?_set, List.getElem?_set]
  by_cases e : j = i
  · subst e
    rw [if_neg (by omega), if_pos rfl, if_pos (by rw [cs_len]; omega), el_set _ _ hi]
    exact ⟨h.1, rfl⟩
  · rw [if_neg (by omega), if_neg (by omega), el_set_ne _ _ (fun h => e h.symm)]
    exact h
theorem Hy.cut {B : Nat} {Nt : Nat → Prop} {w : World} {hb : Nat} {m : List (K × Int)} (h : Hy B Nt w hb m) (hB : B ≤ w.heap.size) (hN : ∀ k, Nt k → k < w.heap.size) {k : K} (hk : wk k) (hn : m.length ≤ 1000000) :
    Calls Try.prog 11 #[.pointer (some ⟨hb, 0, none⟩), ek k] w fun e w' => e = .returned (.bool (decide (k ∈ m.map (·.1)))) ∧ Hy B Nt w' hb (Hp.cut k m) ∧ Below B w w' ∧ ∀ k, Nt k → w'.heap[k]? = w.heap[k]? := by
  obtain ⟨S, h1, h2, h3⟩ := h
  refine (cut_any h1 hk hn).mono ?_
  rintro e w' ⟨rfl, h4⟩
  exact ⟨rfl, Hy.of h4 h2 h3 hB hN⟩
/-- a heap that has m', beside a row that has m -/
structure LQ (w : World) (hb : Nat) (Nt : Nat → Prop) (W : World) (mv : Value) (m' m : List (K × Int)) : Prop where
  h : Hy w.heap.size (fun x => mv.ownBlock = some x ∨ Nt x) W hb m'
  o : W.ownsRow w.heap.size 33 2 mv m.length (cs m)
  b : Below w.heap.size w W
section
variable {w W Y : World} {hb : Nat} {Nt : Nat → Prop} {mv : Value} {m' m : List (K × Int)}
theorem LQ.box (h : LQ w hb (fun _ => False) W mv m' m) (o : Obj) : LQ w hb (fun x => x = W.heap.size) (W.alloc o) mv m' m where
  h := (h.h.more (Nt' := fun x => mv.ownBlock = some x ∨ x = W.heap.size) fun x hx => by
    rcases hx with hx | hx
    · exact .inl (.inl hx)
    · exact .inr (by omega)).old ((Below.refl _ _).alloc (Nat.le_refl _) o)
  o := h.o.alloc o
  b := h.b.alloc h.b.size o
theorem LQ.old (h : LQ w hb Nt W mv m' m) (e : Below W.heap.size W Y) : LQ w hb Nt Y mv m' m :=
  ⟨h.h.old e, (Rg.Calmly.of (N := 0) e).own h.o, h.b.trans (e.mono h.b.size)⟩
theorem LQ.next (h : LQ w hb Nt W mv m' m) : LQ w hb (fun _ => False) W mv m' m :=
  ⟨h.h.more fun x hx => by
    rcases hx with hx | hx
    · exact .inl (.inl hx)
    · exact hx.elim, h.o, h.b⟩
theorem LQ.nt (h : LQ w hb Nt W mv m' m) (hN : ∀ x, Nt x → x < W.heap.size) : ∀ x, (mv.ownBlock = some x ∨ Nt x) → x < W.heap.size := fun x hx => hx.elim (fun e => (h.o.lt x e).2) (hN x)
theorem LQ.is (h : LQ w hb Nt W mv m m) (hn : m.length ≤ 1000000) : Calls Try.prog 16 #[.pointer (some ⟨hb, 0, none⟩), mv] W fun e Y => e = .returned (.bool true) ∧ Below W.heap.size W Y := by
  obtain ⟨S, h1, _⟩ := h.h
  exact is_any h1 h.o hn
theorem LQ.rank (h : LQ w hb Nt W mv m m) {k : K} (hk : wk k) : Calls Try.prog 9 #[.pointer (some ⟨hb, 0, none⟩), ek k] W fun e Y => ((k ∉ m.map (·.1) ∧ e = .returned (.tuple #[.int .i64 0, .bool false])) ∨ (∃ r, (k, r) ∈ m ∧ e = .returned (.tuple #[er r, .bool true]))) ∧ Below W.heap.size W Y := by
  obtain ⟨S, h1, _⟩ := h.h
  exact rank_any h1 hk
theorem LQ.put (h : LQ w hb Nt W mv m m) (hN : ∀ x, Nt x → x < W.heap.size) {k : K} (hk : wk k) (r : Int) (hn : m.length < 1000000) :
    Calls Try.prog 10 #[.pointer (some ⟨hb, 0, none⟩), ek k, er r] W fun e Y => e = .returned (.bool (decide (k ∈ m.map (·.1)))) ∧ LQ w hb Nt Y mv (HpA.put k r m) m ∧ ∀ x, Nt x → Y.heap[x]? = W.heap[x]? := by
  refine (h.h.put h.b.size (h.nt hN) hk r hn).mono ?_
  rintro e Y ⟨rfl, h1, h2, h3⟩
  exact ⟨rfl, ⟨h1, own_same h.o fun b hb => h3 b (.inl hb), h.b.trans h2⟩, fun x hx => h3 x (.inr hx)⟩
theorem LQ.cut (h : LQ w hb Nt W mv m m) (hN : ∀ x, Nt x → x < W.heap.size) {k : K} (hk : wk k) (hn : m.length ≤ 1000000) :
    Calls Try.prog 11 #[.pointer (some ⟨hb, 0, none⟩), ek k] W fun e Y => e = .returned (.bool (decide (k ∈ m.map (·.1)))) ∧ LQ w hb Nt Y mv (Hp.cut k m) m ∧ ∀ x, Nt x → Y.heap[x]? = W.heap[x]? := by
  refine (h.h.cut h.b.size (h.nt hN) hk hn).mono ?_
  rintro e Y ⟨rfl, h1, h2, h3⟩
  exact ⟨rfl, ⟨h1, own_same h.o fun b hb => h3 b (.inl hb), h.b.trans h2⟩, fun x hx => h3 x (.inr hx)⟩
theorem LQ.pop (h : LQ w hb Nt W mv m m) (hN : ∀ x, Nt x → x < W.heap.size) (hm : m ≠ []) (hn : m.length ≤ 1000000) :
    Calls Try.prog 13 #[.pointer (some ⟨hb, 0, none⟩)] W fun e Y => ∃ x, Lst m x ∧ e = .returned (.tuple #[item x, .bool true]) ∧ LQ w hb Nt Y mv (Hp.cut x.1 m) m ∧ ∀ x, Nt x → Y.heap[x]? = W.heap[x]? := by
  refine (h.h.pop h.b.size (h.nt hN) hm hn).mono ?_
  rintro e Y ⟨x, hx, rfl, h1, h2, h3⟩
  exact ⟨x, hx, rfl, ⟨h1, own_same h.o fun b hb => h3 b (.inl hb), h.b.trans h2⟩, fun x hx => h3 x (.inr hx)⟩
theorem LQ.popN (h : LQ w hb Nt W mv [] m) : Calls Try.prog 13 #[.pointer (some ⟨hb, 0, none⟩)] W fun e Y => e = .returned (.tuple #[none0, .bool false]) ∧ Below W.heap.size W Y := by
  obtain ⟨S, h1, _⟩ := h.h
  exact pop_nil h1
theorem LQ.copy (h : LQ w hb Nt W mv m m) (hn : m.length ≤ 1000000) : Calls Try.prog 15 #[.pointer (some ⟨hb, 0, none⟩)] W fun e Y => ∃ c, e = .returned (.pointer (some ⟨c, 0, none⟩)) ∧ (∃ S', Hv S' Y c m ∧ ∀ x, S' x → W.heap.size ≤ x) ∧ Below W.heap.size W Y := by
  obtain ⟨S, h1, _⟩ := h.h
  refine (copy_any h1 hn).mono ?_
  rintro e Y ⟨c, S', rfl, h2, h3, h4⟩
  exact ⟨c, rfl, ⟨S', h2, h3⟩, h4⟩
/-- one that lies behind a place -/
theorem put_behind {B c : Nat} {X : World} (h : ∃ S, Hv S X c m ∧ ∀ x, S x → B ≤ x) (hB : B ≤ X.heap.size) {k : K} (hk : wk k) (r : Int) (hn : m.length < 1000000) :
    Calls Try.prog 10 #[.pointer (some ⟨c, 0, none⟩), ek k, er r] X fun e Y => (∃ b, e = .returned (.bool b)) ∧ (∃ S, Hv S Y c (HpA.put k r m) ∧ ∀ x, S x → B ≤ x) ∧ Below B X Y := by
  obtain ⟨S, h1, h2⟩ := h
  refine (put_any h1 hk r hn).mono ?_
  rintro e Y ⟨rfl, S', h3, h4, h5⟩
  exact ⟨⟨_, rfl⟩, ⟨S', h3, fun x hx => (h5 x hx).elim (h2 x) (fun e => Nat.le_trans hB e)⟩, h4.below hB h2⟩
theorem pop_behind {B c : Nat} {X : World} (h : ∃ S, Hv S X c m ∧ ∀ x, S x → B ≤ x) (hB : B ≤ X.heap.size) (hm : m ≠ []) (hn : m.length ≤ 1000000) :
    Calls Try.prog 13 #[.pointer (some ⟨c, 0, none⟩)] X fun e Y => (∃ x, e = .returned (.tuple #[item x, .bool true])) ∧ Below B X Y := by
  obtain ⟨S, h1, h2⟩ := h
  refine (pop_some h1 hm hn).mono ?_
  rintro e Y ⟨x, hx, rfl, S', h3, h4, h5⟩
  exact ⟨⟨x, rfl⟩, h4.below hB h2⟩
theorem LQ.nodup (h : LQ w hb Nt W mv m' m) : (m'.map (·.1)).Nodup := h.h.nodup
/-- the rank is set in the row -/
theorem LQ.store {k : K} {r : Int} {g cap i : Nat} (h : LQ w hb Nt W (.slice (some ⟨g, 0, none⟩) m.length cap) (HpA.put k r m) m) (hn : (m.map (·.1)).Nodup) (hi : i < m.length) (hk : (el m i).1 = k) :
    LQ w hb Nt (W.setCell ⟨g, i * 2 + 1, none⟩ (er r)) (.slice (some ⟨g, 0, none⟩) m.length cap) (m.set i (k, r)) (m.set i (k, r)) := by
  have hs := h.o.stored (i * 2 + 1) (er r)
  have hB := (h.o.lt g rfl).1
  refine ⟨?_, ?_, ?_⟩
  · refine Hy.perm (m := HpA.put k r m) (h.h.kept (by simp) fun x hx hnx => ?_) ?_
    · exact heap_setCell_other _ _ _ _ (show x ≠ g from fun e => hnx (.inl (by rw [e]; rfl)))
    · have := set_cut hi hn r
      rw [hk] at this
      exact this.symm
  · have := hs.1
    rw [cs_set hi r, hk] at this
    rw [List.length_set]
    exact this
  · exact h.b.setCell (show w.heap.size ≤ g from hB) _
/-- a pair goes behind the row -/
theorem LQ.app {k : K} {r : Int} (h : LQ w hb Nt W mv (HpA.put k r m) m) (hk : k ∉ m.map (·.1)) (hl : m.length ≤ 1000000) (ty : TypeId) :
    ∃ ao cp W', (Builtin.append_ #[26, 26] ty #[mv, .slice (some ⟨W.heap.size, 0, none⟩) 1 1]).run Try.prog (W.alloc (.cells #[ek k, er r] 33)) = .ok (.slice ao (m.length + 1) cp) W' ∧ LQ w hb (fun _ => False) W' (.slice ao (m.length + 1) cp) (m ++ [(k, r)]) (m ++ [(k, r)]) := by
  obtain ⟨i0, hi0, hz0, hz1, hz2⟩ := info_parts infoP
  have h1 := h.old ((Below.refl _ W).alloc (Nat.le_refl _) (.cells #[ek k, er r] 33))
  have hc := cell_two W (ek k) (er r) 33
  obtain ⟨v2, w2, hr2, o2, hg, hn2⟩ := Ao.run_append_own_new (P := Try.prog) (W.alloc (.cells #[ek k, er r] 33)) w.heap.size 26 ty 33 i0 _ 2 16 Try.underlying26 hi0 hz0 hz1 hz2 rfl (by decide) _ m.length (cs m) h1.o ⟨W.heap.size, 0, none⟩ 1 1 [ek k, er r] rfl hc (cs_one [(k, r)]) (by unfold maxLen; omega) (by omega) h1.b.size
  obtain ⟨ao, cp, rfl⟩ := own_shape o2
  refine ⟨ao, cp, w2, hr2, ?_, ?_, ?_⟩
  · have hp : (HpA.put k r m).Perm (m ++ [(k, r)]) := by
      unfold HpA.put
      rw [cut_not hk]
      exact (List.perm_append_comm (l₁ := [(k, r)]) (l₂ := m))
    refine Hy.perm (m := HpA.put k r m) ?_ hp
    refine (h1.h.more (Nt' := fun x => mv.ownBlock = some x ∨ (Value.slice ao (m.length + 1) cp).ownBlock = some x ∨ False) fun x hx => ?_).kept hg.size (fun x hx hnx => hg.block x hx (fun e => hnx (.inl e.symm))) |>.more fun x hx => .inl (.inr hx)
    rcases hx with hx | hx | hx
    · exact .inl (.inl hx)
    · rcases hn2 with h2 | ⟨g2, h2, h3⟩
      · rw [hx] at h2; exact .inl (.inl h2.symm)
      · rw [hx] at h2; obtain rfl := Option.some.inj h2; exact .inr h3
    · exact hx.elim
  · rw [List.length_append, cs_app]
    exact o2
  · exact h1.b.trans (below_grown hg (fun g hgv => (h1.o.lt g hgv).1) h1.b.size)
/-- a pair is cut out of the row -/
theorem LQ.cutRow {i : Nat} {v : Value} (h : LQ w hb Nt W mv (Hp.cut (el m i).1 m) m) (hn : (m.map (·.1)).Nodup) (hi : i < m.length) (hbb : Below W.heap.size W Y) (ho : Y.ownsRow W.heap.size 33 2 v (m.length - 1) (cs (m.eraseIdx i))) :
    LQ w hb (fun _ => False) Y v (m.eraseIdx i) (m.eraseIdx i) := by
  have hp : (m.eraseIdx i).Perm (Hp.cut (el m i).1 m) := cut_of (r := (el m i).2) ((List.perm_append_comm (l₁ := m.eraseIdx i) (l₂ := [el m i])).trans (erase_perm hi).symm) hn
  have hel : (m.eraseIdx i).length = m.length - 1 := by rw [List.length_eraseIdx, if_pos hi]
  refine ⟨Hy.perm (m := Hp.cut (el m i).1 m) ?_ hp.symm, ?_, h.b.trans (hbb.mono h.b.size)⟩
  · refine (h.h.more (Nt' := fun x => v.ownBlock = some x ∨ False) fun x hx => ?_).old hbb
    rcases hx with hx | hx
    · exact .inr (ho.lt x hx).1
    · exact hx.elim
  · rw [hel]
    exact own_base ho h.b.size
end
end Go.Proofs.Ytpeapbhhlfbolaa.HpA
