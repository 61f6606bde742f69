
/- ready's laws: ones in a row of one's own; one laid in, one cut out -/
import Derived.Test.YtomkefaakgodhaaNxC
import Derived.Test.YtomkefaakgodhaaHpPE
import Derived.Maps.AppendAt
namespace Go.Proofs.Ytomkefaakgodhaa.Nx
open Go.RowKit Go.Lib Go.Sort Go.Shelf Hp HpE Ht
set_option linter.unusedVariables false
set_option linter.unusedSectionVars false
set_option maxRecDepth 20000
theorem infoO : (Try.prog.info? 35).map (fun i => (i.zero, i.size, i.bytes)) = some (some (.agg #[.string ⟨#[]⟩, .int .i64 0, .int .u64 0]), 3, 32) := by kernel_rfl
/-- all cells of ones, in a row -/
def os : List O → List Value
  | [] => []
  | x :: l => ek x.1 :: .int .i64 ((x.2.1 : Nat) : Int) :: er x.2.2 :: os l
theorem os_len : ∀ l : List O, (os l).length = l.length * 3
  | [] => rfl
  | x :: l => by simp [os, os_len l]; omega
theorem os_app : ∀ l m : List O, os (l ++ m) = os l ++ os m
  | [], m => rfl
  | x :: l, m => by simp [os, os_app l m]
theorem el_zeroO (x : O) (l : List O) : el (x :: l) 0 = x := rfl
theorem el_succO (x : O) (l : List O) (i : Nat) : el (x :: l) (i + 1) = el l i := rfl
theorem os_get : ∀ (l : List O) (i : Nat), i < l.length → (os l)[i * 3]? = some (ek (el l i).1) ∧ (os l)[i * 3 + 1]? = some (.int .i64 (((el l i).2.1 : Nat) : Int)) ∧ (os l)[i * 3 + 2]? = some (er (el l i).2.2)
  | [], _, h => by simp at h
  | x :: l, 0, _ => by simp [os, el_zeroO]
  | x :: l, i + 1, h => by
    have ih := os_get l i (by simpa using h)
    rw [el_succO, show (i + 1) * 3 = i * 3 + 1 + 1 + 1 by omega]
    simpa [os] using ih
theorem os_one (l : List O) : ∀ u ∈ os l, u.oneCell' = true := by
  induction l with
  | nil => intro u h; simp [os] at h
  | cons x l ih =>
    intro u h
    simp only [os, List.mem_cons] at h
    rcases h with rfl | rfl | rfl | h
    · rfl
    · rfl
    · rfl
    · exact ih u h
/-- ones in a row of one's own -/
abbrev Oo (w : World) (B : Nat) (v : Value) (l : List O) : Prop := w.ownsRow B 35 3 v l.length (os l)
theorem oo_at {w : World} {B : Nat} {v : Value} {l : List O} (h : Oo w B v l) {i : Nat} (hi : i < l.length) : ∃ g c, v = .slice (some ⟨g, 0, none⟩) l.length c ∧ l.length ≤ c ∧ c ≤ maxLen ∧ ∀ i, i < l.length → w.cell? ⟨g, i * 3, none⟩ = some (ek (el l i).1) ∧ w.cell? ⟨g, i * 3 + 1, none⟩ = some (.int .i64 (((el l i).2.1 : Nat) : Int)) ∧ w.cell? ⟨g, i * 3 + 2, none⟩ = some (er (el l i).2.2) := by
  rcases h.2 with ⟨rfl, h0⟩ | ⟨g, cap, cur, rfl, hB, h1, hf, hc, h2, h3⟩
  · omega
  · refine ⟨g, cap, rfl, hf, hc, fun i hi => ?_⟩
    have hg := os_get l i hi
    rw [← h3, List.getElem?_take_of_lt (by omega), List.getElem?_take_of_lt (by omega), List.getElem?_take_of_lt (by omega), Array.getElem?_toList, Array.getElem?_toList, Array.getElem?_toList] at hg
    rw [cell_of_row w g _ cur _ _ h1, cell_of_row w g _ cur _ _ h1, cell_of_row w g _ cur _ _ h1]
    exact hg
theorem wp_append' {o : Oper} {a : Act} {W W' : World} {F : Act → World → Prop} {Q : Exit → Act → World → Prop} {v u v' : Value} (s x : Operand) (t : TypeId)
    (ho : o.op = .call { callee := .builtin .append, args := #[s, x], argTypes := #[t, t] }) (hs : a.eval s = v) (hx : a.eval x = u)
    (hr : (Builtin.append_ #[t, t] o.type #[v, u]).run Try.prog W = .ok v' W') (h : F (a.put o.dst v') W') : o.wp Try.prog a W F Q := by
  unfold Oper.wp execOp
  simp only [ho, resolve, invoke, builtin, Sem.run_bind, Sem.run_pure, Result.andThen_ok, List.map_toArray, List.map_cons, List.map_nil, hs, hx, hr]
  exact h
theorem run_push_all (X : World) {B : Nat} {u v : Value} {l0 l : List O} (hu : Oo X B u l0) {B' : Nat} (h : Oo X B' v l) (hB : B ≤ X.heap.size) (hl0 : l0.length ≤ 1000000) (hl : l.length ≤ 1000000) (ty : TypeId) :
    ∃ v2 X2, (Builtin.append_ #[26, 26] ty #[u, v]).run Try.prog X = .ok v2 X2 ∧ Oo X2 B v2 (l0 ++ l) ∧ Below B X X2 := by
  obtain ⟨i0, hi0, hz0, hz1, hz2⟩ := info_parts infoO
  have h0 := h
  rcases h.2 with ⟨rfl, e⟩ | ⟨g, cap, cur, rfl, _⟩
  · have : l = [] := List.eq_nil_of_length_eq_zero e
    subst this
    exact ⟨u, X, run_append_owned_none X B 26 ty 35 i0 3 Try.underlying26 hi0 u _ _ hu, by rw [List.append_nil]; exact hu, Below.refl _ _⟩
  · obtain ⟨v2, X2, r2, o2, g2, _⟩ := run_append_own (P := Try.prog) X B 26 ty 35 i0 _ 3 32 Try.underlying26 hi0 hz0 hz1 hz2 rfl (by decide) _ l0.length (os l0) hu ⟨g, 0, none⟩ l.length cap (os l) (os_len l) (fun j w hj => h0.cells rfl j w hj) (os_one l) (by unfold maxLen; omega) (by omega) hB
    refine ⟨v2, X2, r2, ?_, ⟨g2.os, g2.tape, g2.output, g2.size, fun k hk => g2.block k (by omega) (fun e => by have := (hu.lt k e.symm).1; omega)⟩⟩
    unfold Oo
    rw [os_app, List.length_append]; exact o2
theorem slice_cap (W : World) (g n c i : Nat) (h : i ≤ n) (h2 : n ≤ c) : (Instr.slice 26 (.slice (some ⟨g, 0, none⟩) n c) none (some (.int .i64 ((i : Nat) : Int))) (some (.int .i64 ((i : Nat) : Int)))).run Try.prog W = .ok (.slice (some ⟨g, 0, none⟩) i i) W := by
  have h1 : ((i : Nat) : Int) ≤ ((c : Nat) : Int) := by omega
  clear h h2
  go_simp
theorem slice_low (W : World) (g n c k : Nat) (y : Addr) (h : k ≤ n) (h2 : n ≤ c) (hy : (if c = k then some (⟨g, 0, none⟩ : Addr) else (some (⟨g, 0, none⟩ : Addr)).map (·.add (k * 3))) = some y) : (Instr.slice 26 (.slice (some ⟨g, 0, none⟩) n c) (some (.int .i64 ((k : Nat) : Int))) none none).run Try.prog W = .ok (.slice (some y) (n - k) (c - k)) W := by
  have h1 : ((k : Nat) : Int) ≤ ((n : Nat) : Int) := by omega
  have h3 : ((n : Nat) : Int) ≤ ((c : Nat) : Int) := by omega
  rw [← hy]
  clear h h2 hy
  go_simp
theorem slice_none (W : World) : (Instr.slice 26 (.slice none 0 0) none (some (.int .i64 0)) (some (.int .i64 0))).run Try.prog W = .ok (.slice none 0 0) W ∧ (Instr.slice 26 (.slice none 0 0) (some (.int .i64 0)) none none).run Try.prog W = .ok (.slice none 0 0) W := by
  constructor <;> go_simp
/-- an append onto a row that has no room -/
theorem run_append_cap (X : World) {B : Nat} {v : Value} {l0 l : List O} (g : Nat) (hold : ∀ j u, (os l0)[j]? = some u → X.cell? ⟨g, j, none⟩ = some u) (ho : Oo X B v l) (hl : 0 < l.length) (hb : l0.length + l.length ≤ 1000000) (ty : TypeId) :
    ∃ v2 X2, (Builtin.append_ #[26, 26] ty #[.slice (some ⟨g, 0, none⟩) l0.length l0.length, v]).run Try.prog X = .ok v2 X2 ∧ Oo X2 X.heap.size v2 (l0 ++ l) ∧ X.grownBy X2 none := by
  obtain ⟨i0, hi, hz0, hz1, hz2⟩ := info_parts infoO
  rcases ho.2 with ⟨_, h0⟩ | ⟨g2, cap, cur, rfl, _⟩
  · omega
  · have hr := run_append_grow (P := Try.prog) X 26 ty 35 i0 _ Try.underlying26 hi hz0 ⟨g, 0, none⟩ l0.length l0.length (os l0) (by rw [hz1, os_len]) (fun j u hu => by rw [Addr.add_mid, Nat.zero_add]; exact hold j u hu) ⟨g2, 0, none⟩ l.length cap (os l) (by rw [hz1, os_len]) (fun j u hu => ho.cells rfl j u hu) (by omega) (by omega) (growslice_fits (by omega) (by rw [hz2]; omega))
    have hge := grownCap_ge X (l0.length + l.length) l0.length 35
    have hcm : grownCap X (l0.length + l.length) l0.length 35 ≤ maxLen := grownCap_le_maxLen X (l0.length + l.length) l0.length 35 (by unfold maxLen; omega)
    have hlen : (os l0 ++ os l).length = (l0.length + l.length) * 3 := by rw [List.length_append, os_len, os_len]; omega
    refine ⟨_, _, hr, ?_, ⟨rfl, rfl, rfl, by simp, fun k hk _ => (MapKept.heap_alloc X.drew _).2 k hk⟩⟩
    unfold Oo
    rw [os_app, List.length_append]
    refine ⟨hlen, .inr ⟨X.heap.size, _, _, rfl, Nat.le_refl _, (MapKept.heap_alloc X.drew _).1, hge, hcm, ?_, ?_⟩⟩
    · simp only [Array.size_append, List.size_toArray, size_zeroCells, os_len]
      simp [Value.cells]
      omega
    · simp only [Array.toList_append, List.append_assoc]
      rw [← List.append_assoc, ← hlen]
      exact List.take_left
theorem ins_runs (W : World) {B : Nat} {v : Value} {o : List O} (ho : Oo W B v o) {i : Nat} (hi : i ≤ o.length) (hn : o.length ≤ 100000) (x : O) (ty : TypeId) :
    ∃ va vb v1 W1 v2 W2, (∀ X, (Instr.slice 26 v none (some (.int .i64 ((i : Nat) : Int))) (some (.int .i64 ((i : Nat) : Int)))).run Try.prog X = .ok va X) ∧ (∀ X, (Instr.slice 26 v (some (.int .i64 ((i : Nat) : Int))) none none).run Try.prog X = .ok vb X) ∧
      (Builtin.append_ #[26, 26] ty #[.slice (some ⟨W.heap.size, 0, none⟩) 1 1, vb]).run Try.prog (W.alloc (.cells #[ek x.1, .int .i64 ((x.2.1 : Nat) : Int), er x.2.2] 35)) = .ok v1 W1 ∧ (Builtin.append_ #[26, 26] ty #[va, v1]).run Try.prog W1 = .ok v2 W2 ∧
      Oo W2 W.heap.size v2 (o.take i ++ x :: o.drop i) ∧ Below W.heap.size W W2 := by
  obtain ⟨i0, hi0, hz0, hz1, hz2⟩ := info_parts infoO
  have hbA : Below W.heap.size W (W.alloc (.cells #[ek x.1, .int .i64 ((x.2.1 : Nat) : Int), er x.2.2] 35)) := (Below.refl _ _).alloc (Nat.le_refl _) _
  have hone : Oo (W.alloc (.cells #[ek x.1, .int .i64 ((x.2.1 : Nat) : Int), er x.2.2] 35)) W.heap.size (.slice (some ⟨W.heap.size, 0, none⟩) 1 1) [x] :=
    ⟨rfl, .inr ⟨W.heap.size, 1, #[ek x.1, .int .i64 ((x.2.1 : Nat) : Int), er x.2.2], rfl, Nat.le_refl _, (MapKept.heap_alloc W _).1, Nat.le_refl _, by unfold maxLen; omega, rfl, rfl⟩⟩
  rcases ho.2 with ⟨rfl, h0⟩ | ⟨g, cap, cur, rfl, hBg, hg, hnc, hcm, hcq, htake⟩
  · have ho0 : o = [] := List.eq_nil_of_length_eq_zero h0
    subst ho0
    obtain rfl : i = 0 := by simpa using hi
    have r1 := run_append_owned_none (W.alloc (.cells #[ek x.1, .int .i64 ((x.2.1 : Nat) : Int), er x.2.2] 35)) W.heap.size 26 ty 35 i0 3 Try.underlying26 hi0 _ _ _ hone
    obtain ⟨v2, X2, r2, o2, b2⟩ := run_push_all (W.alloc (.cells #[ek x.1, .int .i64 ((x.2.1 : Nat) : Int), er x.2.2] 35)) (B := W.heap.size) (u := .slice none 0 0) (l0 := []) (l := [x]) ⟨rfl, .inl ⟨rfl, rfl⟩⟩ hone hbA.size (by simp) (by simp) ty
    exact ⟨.slice none 0 0, .slice none 0 0, _, _, v2, X2, fun X => (slice_none X).1, fun X => (slice_none X).2, r1, r2, o2, hbA.trans b2⟩
  · obtain ⟨y, hy⟩ : ∃ y, (if cap = i then some (⟨g, 0, none⟩ : Addr) else (some (⟨g, 0, none⟩ : Addr)).map (·.add (i * 3))) = some y := by
      split
      · exact ⟨_, rfl⟩
      · exact ⟨_, rfl⟩
    have hcell : ∀ j u, (os o)[j]? = some u → W.cell? ⟨g, j, none⟩ = some u := fun j u hu => by
      have := ho.cells rfl j u hu
      rw [Addr.add_mid, Nat.zero_add] at this; exact this
    have hgW : g < W.heap.size := (Array.getElem?_eq_some_iff.1 hg).1
    have hsplit : os o = os (o.take i) ++ os (o.drop i) := by rw [← os_app, List.take_append_drop]
    have hti : (o.take i).length = i := by simp; omega
    have hdrop : ∀ j u, (os (o.drop i))[j]? = some u → (W.alloc (.cells #[ek x.1, .int .i64 ((x.2.1 : Nat) : Int), er x.2.2] 35)).cell? (y.add j) = some u := fun j u hu => by
      have hjl : j < (o.drop i).length * 3 := by
        have := (List.getElem?_eq_some_iff.1 hu).1
        rwa [os_len] at this
      rw [List.length_drop] at hjl
      have hne : ¬ cap = i := by omega
      rw [if_neg hne] at hy
      simp only [Option.map_some, Option.some.injEq] at hy
      rw [← hy, Addr.add_mid, Addr.add_mid, Nat.zero_add]
      refine (hbA.cell (p := ⟨g, i * 3 + j, none⟩) hgW).trans (hcell _ _ ?_)
      rw [hsplit, List.getElem?_append_right (by rw [os_len, hti]; omega), os_len, hti, show i * 3 + j - i * 3 = j by omega]
      exact hu
    obtain ⟨v1, W1, r1, o1, g1, _⟩ := run_append_own (P := Try.prog) (W.alloc (.cells #[ek x.1, .int .i64 ((x.2.1 : Nat) : Int), er x.2.2] 35)) W.heap.size 26 ty 35 i0 _ 3 32 Try.underlying26 hi0 hz0 hz1 hz2 rfl (by decide) _ 1 (os [x]) hone y (o.length - i) (cap - i) (os (o.drop i)) (by rw [os_len, List.length_drop]) hdrop (os_one _) (by unfold maxLen; omega) (by omega) hbA.size
    have b1 : Below W.heap.size W W1 := hbA.trans ⟨g1.os, g1.tape, g1.output, g1.size, fun k hk => g1.block k (by have := hbA.size; omega) (fun e => by have := (hone.lt k e.symm).1; omega)⟩
    have o1' : Oo W1 W.heap.size v1 (x :: o.drop i) := by
      have e : (x :: o.drop i).length = 1 + (o.length - i) := by simp; omega
      have e2 : os (x :: o.drop i) = os [x] ++ os (o.drop i) := by rw [← os_app]; rfl
      unfold Oo
      rw [e, e2]; exact o1
    obtain ⟨v2, W2, r2, o2, g2⟩ := run_append_cap W1 (l0 := o.take i) (l := x :: o.drop i) g (fun j u hu => by
      have hjl : j < i * 3 := by
        have := (List.getElem?_eq_some_iff.1 hu).1
        rwa [os_len, hti] at this
      refine (b1.cell (p := ⟨g, j, none⟩) hgW).trans (hcell _ _ ?_)
      rw [hsplit, List.getElem?_append_left (by rw [os_len, hti]; exact hjl)]
      exact hu) o1' (by simp) (by simp; omega) ty
    rw [hti] at r2
    exact ⟨_, _, v1, W1, v2, W2, fun X => slice_cap X g o.length cap i hi hnc, fun X => slice_low X g o.length cap i y hi hnc hy, r1, r2, own_base o2 b1.size, b1.trans ⟨g2.os, g2.tape, g2.output, g2.size, fun k hk => g2.block k (by have := b1.size; omega) (by simp)⟩⟩
end Go.Proofs.Ytomkefaakgodhaa.Nx
