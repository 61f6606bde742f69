
/- heaps of string and uint64: one behind the others -/
import Derived.Test.YtomkefaakgodhaaHpEE
import Derived.Test.YtomkefaakgodhaaAo
namespace Go.Proofs.Ytomkefaakgodhaa.HpE
open Go.RowKit Go.Lib Go.Sort Hp
set_option linter.unusedVariables false

theorem infoE : (Try.prog.info? 63).map (fun i => (i.zero, i.size, i.bytes)) = some (some (.agg #[.string ⟨#[]⟩, .int .u64 0]), 2, 24) := by kernel_rfl
/-- all cells of items, in a row -/
def cs : List (K × Int) → List Value
  | [] => []
  | x :: l => ek x.1 :: er x.2 :: cs l
theorem cs_len : ∀ l : List (K × Int), (cs l).length = l.length * 2
  | [] => rfl
  | x :: l => by simp [cs, cs_len l]; omega
theorem cs_app : ∀ l m : List (K × Int), cs (l ++ m) = cs l ++ cs m
  | [], m => rfl
  | x :: l, m => by simp [cs, cs_app l m]
theorem el_zero (x : K × Int) (l : List (K × Int)) : el (x :: l) 0 = x := rfl
theorem el_succ (x : K × Int) (l : List (K × Int)) (i : Nat) : el (x :: l) (i + 1) = el l i := rfl
theorem cs_get : ∀ (l : List (K × Int)) (i : Nat), i < l.length → (cs l)[i * 2]? = some (ek (el l i).1) ∧ (cs l)[i * 2 + 1]? = some (er (el l i).2)
  | [], _, h => by simp at h
  | x :: l, 0, _ => by simp [cs, el_zero]
  | x :: l, i + 1, h => by
    have ih := cs_get l i (by simpa using h)
    rw [el_succ, show (i + 1) * 2 = i * 2 + 1 + 1 by omega]
    simpa [cs] using ih
theorem cs_one (l : List (K × Int)) : ∀ u ∈ cs l, u.oneCell' = true := by
  induction l with
  | nil => intro u h; simp [cs] at h
  | cons x l ih =>
    intro u h
    simp only [cs, List.mem_cons] at h
    rcases h with rfl | rfl | h
    · rfl
    · rfl
    · exact ih u h
theorem ext_cs {xs : List Value} {l : List (K × Int)} (hl : xs.length = l.length * 2) (h : ∀ i, i < l.length → xs[i * 2]? = some (ek (el l i).1) ∧ xs[i * 2 + 1]? = some (er (el l i).2)) : xs = cs l := by
  refine List.ext_getElem? fun j => ?_
  by_cases hj : j < l.length * 2
  · have h1 := h (j / 2) (by omega)
    have h2 := cs_get l (j / 2) (by omega)
    rcases Nat.mod_two_eq_zero_or_one j with e | e
    · rw [show j = j / 2 * 2 by omega, h1.1, h2.1]
    · rw [show j = j / 2 * 2 + 1 by omega, h1.2, h2.2]
  · rw [List.getElem?_eq_none (by omega), List.getElem?_eq_none (by rw [cs_len]; omega)]
theorem Blk.own {w : World} {g cap : Nat} {l : List (K × Int)} (h : Blk w g cap l) {B : Nat} (hB : B ≤ g) : w.ownsRow B 63 2 (.slice (some ⟨g, 0, none⟩) l.length cap) l.length (cs l) := by
  obtain ⟨cur, h1, h2, h3⟩ := h.here
  have hf := h.fits
  refine ⟨cs_len l, .inr ⟨g, cap, cur, rfl, hB, h1, h.fits, h.cap, h2, ext_cs (by simp; omega) fun i hi => ?_⟩⟩
  rw [List.getElem?_take_of_lt (by omega), List.getElem?_take_of_lt (by omega), Array.getElem?_toList, Array.getElem?_toList]
  exact h3 i hi
theorem row_of_own {w : World} {v : Value} {l : List (K × Int)} {B : Nat} (h : w.ownsRow B 63 2 v l.length (cs l)) : Row w v l := by
  rcases h.2 with ⟨rfl, h0⟩ | ⟨g, cap, cur, rfl, hB, h1, hf, hc, h2, h3⟩
  · exact .inl ⟨List.eq_nil_of_length_eq_zero h0, none, rfl⟩
  · refine .inr ⟨g, cap, rfl, ⟨cur, h1, h2, fun i hi => ?_⟩, hf, hc⟩
    have hg := cs_get l i hi
    rw [← h3, List.getElem?_take_of_lt (by omega), List.getElem?_take_of_lt (by omega), Array.getElem?_toList, Array.getElem?_toList] at hg
    exact hg
theorem blk_own {v : Value} {b : Nat} (h : blk v = some b) : v.ownBlock = some b ∨ v = .map (some b) := by
  cases v <;> simp [blk] at h
  · rename_i p n c
    rcases p with _ | a
    · simp at h
    · cases c <;> simp at h
      exact .inl (by simp [Value.ownBlock, h])
  · subst h; exact .inr rfl
theorem own_shape {w : World} {B : Nat} {e : TypeId} {k : Nat} {v : Value} {n : Nat} {xs : List Value} (h : w.ownsRow B e k v n xs) : ∃ ao cp, v = .slice ao n cp := by
  rcases h.2 with ⟨rfl, rfl⟩ | ⟨g, cap, cur, rfl, _⟩
  · exact ⟨none, 0, rfl⟩
  · exact ⟨_, cap, rfl⟩
/-- 'append(row, item)' -/
theorem row_append (w : World) {iv : Value} {l : List (K × Int)} (h : Row w iv l) (hn : l.length ≤ 1000000) (x : K × Int) (a : Addr) (c : Nat)
    (hx : ∀ j u, (cs [x])[j]? = some u → w.cell? (a.add j) = some u) (ty : TypeId) :
    ∃ ao cp w', (Builtin.append_ #[73, 73] ty #[iv, .slice (some a) 1 c]).run Try.prog w = .ok (.slice ao (l.length + 1) cp) w' ∧ Row w' (.slice ao (l.length + 1) cp) (l ++ [x]) ∧ w.grownBy w' (blk iv) ∧
      (∀ b, blk (.slice ao (l.length + 1) cp) = some b → blk iv = some b ∨ w.heap.size ≤ b) := by
  obtain ⟨i0, hi, hz0, hz1, hz2⟩ := info_parts infoE
  have hle : (l ++ [x]).length = l.length + 1 := by simp
  have key : ∀ p, ∃ ao cp w', (Builtin.append_ #[73, 73] ty #[.slice p 0 0, .slice (some a) 1 c]).run Try.prog w = .ok (.slice ao (0 + 1) cp) w' ∧ Row w' (.slice ao (0 + 1) cp) ([] ++ [x]) ∧ w.grownBy w' none ∧ ∀ b, blk (.slice ao (0 + 1) cp) = some b → w.heap.size ≤ b := by
    intro p
    obtain ⟨v2, w2, hr2, o2, hg, _⟩ := run_append_own (P := Try.prog) w w.heap.size 73 ty 63 i0 _ 2 24 Try.underlying73 hi hz0 hz1 hz2 rfl (by decide) _ 0 [] (World.ownsRow_nil w w.heap.size 63 2) a 1 c (cs [x]) rfl hx (cs_one [x]) (by unfold maxLen; omega) (by omega) (Nat.le_refl _)
    obtain ⟨ao, cp, rfl⟩ := own_shape o2
    refine ⟨ao, cp, w2, ?_, row_of_own (B := w.heap.size) (by simpa using o2), hg, fun b hb => ?_⟩
    · rw [← hr2]
      have e1 := run_append_nil (P := Try.prog) w 73 ty 63 i0 _ Try.underlying73 hi hz0 a 1 c (cs [x]) (by rw [hz1]; rfl) hx (by decide) (by decide) (by rw [hz2]; decide)
      rcases p with _ | p
      · rfl
      · rw [e1]
        have e2 := run_append_grow (P := Try.prog) w 73 ty 63 i0 _ Try.underlying73 hi hz0 p 0 0 [] (by simp) (by simp) a 1 c (cs [x]) (by rw [hz1]; rfl) hx (by decide) (by decide) (by rw [hz2]; decide)
        rw [e2]
        simp
    · rcases blk_own hb with h1 | h1
      · exact (o2.lt b h1).1
      · cases h1
  rcases h with ⟨rfl, p, rfl⟩ | ⟨g, cap, rfl, hB⟩
  · obtain ⟨ao, cp, w2, h1, h2, h3, h4⟩ := key p
    exact ⟨ao, cp, w2, h1, h2, ⟨h3.os, h3.tape, h3.output, h3.size, fun k hk _ => h3.block k hk (by simp)⟩, fun b hb => .inr (h4 b hb)⟩
  · by_cases hc : cap = 0
    · subst hc
      have := hB.fits
      obtain rfl : l = [] := List.eq_nil_of_length_eq_zero (by omega)
      obtain ⟨ao, cp, w2, h1, h2, h3, h4⟩ := key (some ⟨g, 0, none⟩)
      exact ⟨ao, cp, w2, h1, h2, ⟨h3.os, h3.tape, h3.output, h3.size, fun k hk _ => h3.block k hk (by simp)⟩, fun b hb => .inr (h4 b hb)⟩
    · obtain ⟨v2, w2, hr2, o2, hg, hn2⟩ := Ao.run_append_own_new (P := Try.prog) w 0 73 ty 63 i0 _ 2 24 Try.underlying73 hi hz0 hz1 hz2 rfl (by decide) _ l.length (cs l) (hB.own (Nat.zero_le g)) a 1 c (cs [x]) rfl hx (cs_one [x]) (by unfold maxLen; omega) (by omega) (Nat.zero_le _)
      obtain ⟨ao, cp, rfl⟩ := own_shape o2
      have hbl : blk (.slice (some ⟨g, 0, none⟩) l.length cap) = some g := by
        obtain ⟨c, rfl⟩ : ∃ c, cap = c + 1 := ⟨cap - 1, by omega⟩
        rfl
      refine ⟨ao, cp, w2, hr2, ?_, by rw [hbl]; exact hg, fun b hb => ?_⟩
      · have : Row w2 (.slice ao (l ++ [x]).length cp) (l ++ [x]) := row_of_own (B := 0) (by rw [hle, cs_app]; exact o2)
        rw [hle] at this
        exact this
      · rw [hbl]
        rcases blk_own hb with h1 | h1
        · rcases hn2 with h2 | ⟨g2, h2, h3⟩
          · rw [h1] at h2; exact .inl h2.symm
          · rw [h1] at h2; obtain rfl := Option.some.inj h2; exact .inr h3
        · cases h1
end Go.Proofs.Ytomkefaakgodhaa.HpE
