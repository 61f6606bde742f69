
/- heaps of string and uint64: three apart -/
import Derived.Test.YtomkefaakgodhaaHpXE
namespace Go.Proofs.Ytomkefaakgodhaa.HpE
open Go.RowKit Go.Lib Go.Sort Hp
set_option linter.unusedVariables false
/-- three heaps, apart, from B on -/
def T3 (B : Nat) (X : World) (x y z : Nat) (m1 m2 m3 : List (K × Int)) : Prop :=
  ∃ S1 S2 S3, Hv S1 X x m1 ∧ Hv S2 X y m2 ∧ Hv S3 X z m3 ∧ (∀ k, S1 k → ¬ S2 k) ∧ (∀ k, S1 k → ¬ S3 k) ∧ (∀ k, S2 k → ¬ S3 k) ∧ (∀ k, S1 k → B ≤ k) ∧ (∀ k, S2 k → B ≤ k) ∧ ∀ k, S3 k → B ≤ k
section
variable {B : Nat} {X : World} {x y z : Nat} {m1 m2 m3 : List (K × Int)}
theorem T3.rot (h : T3 B X x y z m1 m2 m3) : T3 B X y z x m2 m3 m1 := by
  obtain ⟨S1, S2, S3, a1, a2, a3, d1, d2, d3, b1, b2, b3⟩ := h
  exact ⟨S2, S3, S1, a2, a3, a1, d3, fun k h1 h2 => d1 k h2 h1, fun k h1 h2 => d2 k h2 h1, b2, b3, b1⟩
theorem T3.old {Y : World} (h : T3 B X x y z m1 m2 m3) (e : Below X.heap.size X Y) : T3 B Y x y z m1 m2 m3 := by
  obtain ⟨S1, S2, S3, a1, a2, a3, d⟩ := h
  exact ⟨S1, S2, S3, a1.old e, a2.old e, a3.old e, d⟩
theorem T3.of {S1 S2 S3 : Nat → Prop} {Y : World} {m : List (K × Int)} (hw : Hw S1 X x Y m) (a2 : Hv S2 X y m2) (a3 : Hv S3 X z m3) (d1 : ∀ k, S1 k → ¬ S2 k) (d2 : ∀ k, S1 k → ¬ S3 k) (d3 : ∀ k, S2 k → ¬ S3 k)
    (b1 : ∀ k, S1 k → B ≤ k) (b2 : ∀ k, S2 k → B ≤ k) (b3 : ∀ k, S3 k → B ≤ k) (hB : B ≤ X.heap.size) : T3 B Y x y z m m2 m3 ∧ Below B X Y := by
  obtain ⟨S', h1, h2, h3⟩ := hw
  refine ⟨⟨S', S2, S3, h1, a2.fr h2 (fun k h e => d1 k e h), a3.fr h2 (fun k h e => d2 k e h), fun k hk e => ?_, fun k hk e => ?_, d3, fun k hk => ?_, b2, b3⟩, h2.below hB b1⟩
  · rcases h3 k hk with h | h
    · exact d1 k h e
    · have := a2.size k e; omega
  · rcases h3 k hk with h | h
    · exact d2 k h e
    · have := a3.size k e; omega
  · rcases h3 k hk with h | h
    · exact b1 k h
    · omega
theorem T3.put (h : T3 B X x y z m1 m2 m3) (hB : B ≤ X.heap.size) {k : K} (hk : wk k) (r : Int) (hn : m1.length < 1000000) :
    Calls Try.prog 24 #[.pointer (some ⟨x, 0, none⟩), ek k, er r] X fun e Y => (∃ b, e = .returned (.bool b)) ∧ T3 B Y x y z (put k r m1) m2 m3 ∧ Below B X Y := by
  obtain ⟨S1, S2, S3, a1, a2, a3, d1, d2, d3, b1, b2, b3⟩ := h
  refine (put_any a1 hk r hn).mono ?_
  rintro e w' ⟨rfl, hw⟩
  exact ⟨⟨_, rfl⟩, T3.of hw a2 a3 d1 d2 d3 b1 b2 b3 hB⟩
theorem T3.pop (h : T3 B X x y z m1 m2 m3) (hB : B ≤ X.heap.size) (hm : m1 ≠ []) (hn : m1.length ≤ 1000000) :
    Calls Try.prog 27 #[.pointer (some ⟨x, 0, none⟩)] X fun e Y => ∃ p, Lst m1 p ∧ e = .returned (.tuple #[item p, .bool true]) ∧ T3 B Y x y z (cut p.1 m1) m2 m3 ∧ Below B X Y := by
  obtain ⟨S1, S2, S3, a1, a2, a3, d1, d2, d3, b1, b2, b3⟩ := h
  refine (pop_some a1 hm hn).mono ?_
  rintro e w' ⟨p, hp, rfl, hw⟩
  exact ⟨p, hp, rfl, T3.of hw a2 a3 d1 d2 d3 b1 b2 b3 hB⟩
theorem T3.len (h : T3 B X x y z m1 m2 m3) : Calls Try.prog 32 #[.pointer (some ⟨x, 0, none⟩)] X fun e Y => e = .returned (.int .i64 ((m1.length : Nat) : Int)) ∧ Y = X := by
  obtain ⟨S1, S2, S3, a1, _⟩ := h
  exact a1.len
theorem T3.nodup (h : T3 B X x y z m1 m2 m3) : (m1.map (·.1)).Nodup := by
  obtain ⟨S1, S2, S3, a1, _⟩ := h
  exact a1.nodup
theorem T3.keys (h : T3 B X x y z m1 m2 m3) : ∀ p ∈ m1, wk p.1 := by
  obtain ⟨S1, S2, S3, a1, _⟩ := h
  exact a1.keys
theorem new_v (w : World) : Calls Try.prog 23 #[] w fun e w' => e = .returned (.pointer (some ⟨w.heap.size, 0, none⟩)) ∧ Hv (fun k => k = w.heap.size) w' w.heap.size [] ∧ Below w.heap.size w w' := by
  refine (new_any w).mono ?_
  rintro e w' ⟨rfl, h1, h2⟩
  exact ⟨rfl, ⟨_, _, _, _, h1, fun j _ hj => absurd hj (by simp), List.Perm.refl _⟩, h2⟩
end
theorem put_key {k k' : K} {r : Int} {m : List (K × Int)} : k' ∈ (put k r m).map (·.1) ↔ k' = k ∨ k' ∈ m.map (·.1) := by
  unfold put
  simp only [List.map_cons, List.mem_cons, List.mem_map]
  constructor
  · rintro (h | ⟨p, hp, rfl⟩)
    · exact .inl h
    · exact .inr ⟨p, (mem_cut.1 hp).1, rfl⟩
  · rintro (h | ⟨p, hp, rfl⟩)
    · exact .inl h
    · by_cases e : p.1 = k
      · exact .inl e
      · exact .inr ⟨p, mem_cut.2 ⟨hp, e⟩, rfl⟩
theorem cut_key {k k' : K} {m : List (K × Int)} : k' ∈ (cut k m).map (·.1) ↔ k' ∈ m.map (·.1) ∧ k' ≠ k := by
  simp only [List.mem_map]
  constructor
  · rintro ⟨p, hp, rfl⟩
    exact ⟨⟨p, (mem_cut.1 hp).1, rfl⟩, (mem_cut.1 hp).2⟩
  · rintro ⟨⟨p, hp, rfl⟩, h⟩
    exact ⟨p, mem_cut.2 ⟨hp, h⟩, rfl⟩
theorem cut_len {k : K} {m : List (K × Int)} : (cut k m).length ≤ m.length := List.length_filter_le _ _
theorem put_len {k : K} {r : Int} {m : List (K × Int)} : (put k r m).length ≤ m.length + 1 := by unfold put; have := cut_len (k := k) (m := m); simp; omega
theorem cut_less {k : K} {m : List (K × Int)} (h : k ∈ m.map (·.1)) : (cut k m).length < m.length := by
  obtain ⟨p, hp, rfl⟩ := List.mem_map.1 h
  unfold cut
  exact List.length_filter_lt_length_iff_exists.2 ⟨p, hp, by simp⟩
/-- nodup lists of the same members are permutations -/
theorem perm_of_mem {α : Type} [DecidableEq α] : ∀ {l m : List α}, l.Nodup → m.Nodup → (∀ x, x ∈ l ↔ x ∈ m) → l.Perm m
  | [], m, _, _, h => by
    have : m = [] := List.eq_nil_iff_forall_not_mem.2 fun x hx => by simpa using (h x).2 hx
    rw [this]
  | x :: l, m, h1, h2, h => by
    have hx : x ∈ m := (h x).1 (by simp)
    have h3 := List.nodup_cons.1 h1
    have hp : m.Perm (x :: m.erase x) := List.perm_cons_erase hx
    have h4 := hp.nodup_iff.1 h2
    have h5 := List.nodup_cons.1 h4
    refine (List.Perm.cons x (perm_of_mem h3.2 h5.2 fun y => ?_)).trans hp.symm
    constructor
    · intro hy
      have := (h y).1 (by simp [hy])
      rcases List.mem_cons.1 (hp.mem_iff.1 this) with e | e
      · subst e; exact absurd hy h3.1
      · exact e
    · intro hy
      have := (h y).2 (hp.mem_iff.2 (by simp [hy]))
      rcases List.mem_cons.1 this with e | e
      · subst e; exact absurd hy h5.1
      · exact e
theorem nodup_of_keys {m : List (K × Int)} (h : (m.map (·.1)).Nodup) : m.Nodup := by
  rw [List.nodup_iff_pairwise_ne, List.pairwise_map] at h
  rw [List.nodup_iff_pairwise_ne]
  exact h.imp fun h e => h (by rw [e])
end Go.Proofs.Ytomkefaakgodhaa.HpE
namespace Go.Proofs.Ytomkefaakgodhaa.HpE
open Go.RowKit Hp
/-- how many a heap has, read off its row -/
def lenAt (x : Nat) (w : World) : Nat := match w.cell? ⟨x, 0, none⟩ with
  | some (.slice _ n _) => n
  | _ => 0
theorem Hv.lenAt {S : Nat → Prop} {w : World} {hb : Nat} {m : List (K × Int)} (h : Hv S w hb m) : lenAt hb w = m.length := by
  obtain ⟨iv, mv, l, f, hq, _, hp⟩ := h
  obtain ⟨a, cap, hiv, _⟩ := hq.shape
  have hc := hq.items
  rw [hiv] at hc
  unfold HpE.lenAt
  rw [hc]
  exact hp.length_eq
theorem T3.lenAt {B : Nat} {X : World} {x y z : Nat} {m1 m2 m3 : List (K × Int)} (h : T3 B X x y z m1 m2 m3) : lenAt x X = m1.length := by
  obtain ⟨S1, S2, S3, a1, _⟩ := h
  exact a1.lenAt
end Go.Proofs.Ytomkefaakgodhaa.HpE
namespace Go.Proofs.Ytomkefaakgodhaa.HpE
open Go.RowKit Hp
/-- .. behind new blocks, which stay -/
theorem T3.pop_at {B : Nat} {X Y0 : World} {x y z : Nat} {m1 m2 m3 : List (K × Int)} (h : T3 B X x y z m1 m2 m3) (hb : Below X.heap.size X Y0) (hB : B ≤ X.heap.size) (hm : m1 ≠ []) (hn : m1.length ≤ 1000000) :
    Calls Try.prog 27 #[.pointer (some ⟨x, 0, none⟩)] Y0 fun e Y => ∃ p, Lst m1 p ∧ e = .returned (.tuple #[item p, .bool true]) ∧ T3 B Y x y z (cut p.1 m1) m2 m3 ∧ Below B Y0 Y ∧ ∀ k, X.heap.size ≤ k → k < Y0.heap.size → Y.heap[k]? = Y0.heap[k]? := by
  obtain ⟨S1, S2, S3, a1, a2, a3, d1, d2, d3, b1, b2, b3⟩ := h
  refine (pop_some (a1.old hb) hm hn).mono ?_
  rintro e w' ⟨p, hp, rfl, hw⟩
  have hz := hb.size
  have hfr : ∀ k, X.heap.size ≤ k → k < Y0.heap.size → w'.heap[k]? = Y0.heap[k]? := by
    obtain ⟨S', h1, h2, h3⟩ := hw
    exact fun k hk hk2 => h2.block k hk2 fun e => by have := a1.size k e; omega
  have ht := T3.of hw (a2.old hb) (a3.old hb) d1 d2 d3 b1 b2 b3 (Nat.le_trans hB hz)
  exact ⟨p, hp, rfl, ht.1, ht.2, hfr⟩
end Go.Proofs.Ytomkefaakgodhaa.HpE
