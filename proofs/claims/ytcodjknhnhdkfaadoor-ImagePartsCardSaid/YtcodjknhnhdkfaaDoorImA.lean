
/- bytes cut into parts -/
import Derived.Test.YtcodjknhnhdkfaaDoorBy
import Derived.Test.YtcodjknhnhdkfaaDoorNw
import Derived.Test.YtcodjknhnhdkfaaDoorAo
import Derived.Test.YtcodjknhnhdkfaaDoorHpF
namespace Go.Proofs.YtcodjknhnhdkfaaDoor.Im
open Go.RowKit Go.Lib By
set_option linter.unusedVariables false
set_option linter.unusedSectionVars false
set_option maxRecDepth 20000
theorem IsB.sub {w : World} {g o len cap i j : Nat} {l : List UInt8} (h : IsB w (some ⟨g, o, none⟩) len cap l) (hi : i ≤ j) (hj : j ≤ len) : IsB w (some ⟨g, o + i, none⟩) (j - i) (cap - i) ((l.take j).drop i) := by
  obtain ⟨h1, ⟨h2, _⟩ | ⟨x, h2, h3, h4, h5⟩⟩ := h
  · cases h2
  · obtain rfl := Option.some.inj h2
    refine ⟨by simp; omega, .inr ⟨_, rfl, by omega, by omega, fun k u hk => ?_⟩⟩
    have hk' : k < j - i := by
      have := (List.getElem?_eq_some_iff.1 hk).1
      simp [byteCells] at this; omega
    have e := h5 (i + k) u (by
      simp only [byteCells, List.getElem?_map, List.getElem?_drop] at hk ⊢
      rw [List.getElem?_take_of_lt (by omega)] at hk
      exact hk)
    rw [Addr.add_mid] at e ⊢
    rw [show o + i + k = o + (i + k) by omega]
    exact e
theorem IsB.none0 (w : World) : IsB w none 0 0 [] := ⟨rfl, .inl ⟨rfl, rfl, rfl⟩⟩
theorem IsB.sub0 {w : World} {g o len cap : Nat} {l : List UInt8} (h : IsB w (some ⟨g, o, none⟩) len cap l) : IsB w (some ⟨g, o, none⟩) 0 0 [] :=
  ⟨rfl, .inr ⟨_, rfl, Nat.le_refl _, Nat.zero_le _, fun k u hk => by simp [byteCells] at hk⟩⟩
/-- a row of rows of bytes, none of them empty, all in memory from block B on -/
structure Pt (B : Nat) (w : World) (v : Value) (vs : List Value) (ps : List (List UInt8)) : Prop where
  own : w.ownsRow B 22 1 v vs.length vs
  len : vs.length = ps.length
  each : ∀ (i : Nat) (x : Value) (p : List UInt8), vs[i]? = some x → ps[i]? = some p → 0 < p.length ∧ ∃ g c, x = .slice (some ⟨g, 0, none⟩) p.length c ∧ B ≤ g ∧ (∃ cur, w.heap[g]? = some (Obj.cells cur 5 (0, 0))) ∧ IsB w (some ⟨g, 0, none⟩) p.length c p
theorem pown_block {w : World} {B n : Nat} {v : Value} {xs : List Value} (h : w.ownsRow B 22 1 v n xs) {b : Nat} (hb : v.ownBlock = some b) : B ≤ b ∧ b < w.heap.size ∧ ∃ cur, w.heap[b]? = some (.cells cur 22 (0, 0)) := by
  rcases h with ⟨h0, h | ⟨g, cap, cur, rfl, h1, h2, h3⟩⟩
  · rw [h.1] at hb; cases hb
  · cases hb; exact ⟨h1, lt_of_block h2, cur, h2⟩
theorem pown_kept {w Y : World} {B : Nat} {t : TypeId} {k n : Nat} {v : Value} {xs : List Value} (h : w.ownsRow B t k v n xs) (e : ∀ b, v.ownBlock = some b → Y.heap[b]? = w.heap[b]?) : Y.ownsRow B t k v n xs := by
  rcases h with ⟨h0, h | ⟨g, cap, cur, rfl, h1, h2, h3⟩⟩
  · exact ⟨h0, .inl h⟩
  · refine ⟨h0, .inr ⟨g, cap, cur, rfl, h1, (e g ?_).trans h2, h3⟩⟩
    rfl
theorem isB_kept {w Y : World} {g n c : Nat} {l : List UInt8} (h : IsB w (some ⟨g, 0, none⟩) n c l) (e : Y.heap[g]? = w.heap[g]?) : IsB Y (some ⟨g, 0, none⟩) n c l := by
  obtain ⟨h1, ⟨h2, _⟩ | ⟨x, h2, h3, h4, h5⟩⟩ := h
  · cases h2
  · obtain rfl := Option.some.inj h2
    refine ⟨h1, .inr ⟨_, rfl, h3, h4, fun k u hk => ?_⟩⟩
    rw [Addr.add_mid] at *
    have := h5 k u hk
    rw [Addr.add_mid] at this
    exact (World.cell?_of_block (w := w) (a := ⟨g, 0 + k, none⟩) e).trans this
theorem Pt.kept {B : Nat} {w Y : World} {v : Value} {vs : List Value} {ps : List (List UInt8)} (h : Pt B w v vs ps) (e : ∀ g, B ≤ g → g < w.heap.size → Y.heap[g]? = w.heap[g]?) : Pt B Y v vs ps where
  own := pown_kept h.own fun b hb => e b (pown_block h.own hb).1 (pown_block h.own hb).2.1
  len := h.len
  each i x p hx hp := by
    obtain ⟨h0, g, c, h1, h2, ⟨cur, h3⟩, h4⟩ := h.each i x p hx hp
    have e1 := e g h2 (lt_of_block h3)
    exact ⟨h0, g, c, h1, h2, ⟨cur, e1.trans h3⟩, isB_kept h4 e1⟩
theorem Pt.nil (B : Nat) (w : World) : Pt B w (.slice none 0 0) [] [] := ⟨World.ownsRow_nil _ _ _ _, rfl, fun i x p h => by simp at h⟩
theorem infoB : (Tryd.prog.info? 22).map (fun i => (i.zero, i.size, i.bytes)) = some (some (.slice none 0 0), 1, 24) := by kernel_rfl
theorem pinfo_parts {P : Program} {t : TypeId} {z : Option Value} {a b : Nat} (h : (P.info? t).map (fun i => (i.zero, i.size, i.bytes)) = some (z, a, b)) : ∃ i, P.info? t = some i ∧ i.zero = z ∧ i.size = a ∧ i.bytes = b := by
  cases e : P.info? t with
  | none => rw [e] at h; cases h
  | some i => rw [e] at h; simp only [Option.map_some, Option.some.injEq, Prod.mk.injEq] at h; exact ⟨i, rfl, h.1, h.2.1, h.2.2⟩
/-- one more part: cloned into a row of its own, put behind the others -/
theorem Pt.push {B : Nat} {wr Z : World} {v : Value} {vs : List Value} {ps : List (List UInt8)} (h : Pt B wr v vs ps) (hB : B ≤ wr.heap.size) (hZ : Below wr.heap.size wr Z) {p : List UInt8} {v1 : Value} (hp : 0 < p.length) (ho : Z.ownsRow wr.heap.size 5 1 v1 p.length (byteCells p)) (hk : vs.length ≤ 100000) (ty : TypeId) :
    ∃ v' w', (Builtin.append_ #[24, 24] ty #[v, .slice (some ⟨Z.heap.size, 0, none⟩) 1 1]).run Tryd.prog (Z.alloc (.cells #[v1] 22)) = .ok v' w' ∧ Pt B w' v' (vs ++ [v1]) (ps ++ [p]) ∧ Hp.Fr (fun b => v.ownBlock = some b) wr w' := by
  obtain ⟨U, hU⟩ : ∃ U, U = Z.alloc (.cells #[v1] 22) := ⟨_, rfl⟩
  have hbU : Below Z.heap.size Z U := by rw [hU]; exact (Below.refl _ _).alloc (Nat.le_refl _) _
  have hU1 : U.heap[Z.heap.size]? = some (.cells #[v1] 22 (0, 0)) := by rw [hU]; exact heap_alloc_new Z _
  have hzU : U.heap.size = Z.heap.size + 1 := by rw [hU]; simp
  have hzz := hZ.size
  have gU : Pt B U v vs ps := h.kept fun g _ hg => (hbU.block g (by omega)).trans (hZ.block g hg)
  obtain ⟨ao, cp, hv1⟩ := own_shape ho
  obtain ⟨i0, hi, hz0, hz1, hz2⟩ := pinfo_parts infoB
  obtain ⟨v', w', hr, h1, h2, h3⟩ := Ao.run_append_own_new (P := Tryd.prog) U B 24 ty 22 i0 (.slice none 0 0) 1 24 Tryd.underlying24 hi hz0 hz1 hz2 rfl (by decide) v vs.length vs gU.own ⟨Z.heap.size, 0, none⟩ 1 1 [v1] rfl
    (fun k u hu => by
      match k, hu with
      | 0, hu =>
        simp at hu
        rw [Addr.add_mid, cell_of_row U _ _ _ _ _ hU1, ← hu]
        rfl) (fun u hu => by
      obtain rfl := List.mem_singleton.1 hu
      rw [hv1]; rfl) (by unfold maxLen; omega) (by omega) (by omega)
  rw [← hU]
  have hgs := h2.size
  have keep : ∀ g cur, U.heap[g]? = some (Obj.cells cur 5 (0, 0)) → w'.heap[g]? = U.heap[g]? := fun g cur hc => h2.block g (lt_of_block hc) (fun e => by
    obtain ⟨_, _, cur2, h5⟩ := pown_block gU.own e.symm
    rw [hc] at h5
    simp at h5)
  refine ⟨v', w', hr, ⟨by simpa using h1, by simp [h.len], fun i x q hx hq => ?_⟩, ?_⟩
  · by_cases e : i < vs.length
    · rw [List.getElem?_append_left e] at hx
      rw [List.getElem?_append_left (by rw [← h.len]; exact e)] at hq
      obtain ⟨k0, g, c, k1, k2, ⟨cur, k3⟩, k4⟩ := gU.each i x q hx hq
      have e1 := keep g cur k3
      exact ⟨k0, g, c, k1, k2, ⟨cur, e1.trans k3⟩, isB_kept k4 e1⟩
    · have e2 : i = vs.length := by
        have := (List.getElem?_eq_some_iff.1 hx).1
        simp at this; omega
      subst e2
      rw [List.getElem?_append_right (Nat.le_refl _), Nat.sub_self] at hx
      rw [h.len, List.getElem?_append_right (Nat.le_refl _), Nat.sub_self] at hq
      simp at hx hq
      rw [← hx, ← hq]
      have hib : ∃ a cap, v1 = .slice a p.length cap ∧ IsB Z a p.length cap p := isB_own ho
      obtain ⟨a2, c2, e3, e4⟩ := hib
      rcases ho.2 with ⟨k1, k2⟩ | ⟨g, cap, cur, k1, k2, k3, _⟩
      · have : p.length = 0 := k2
        omega
      · rw [k1] at e3
        obtain ⟨rfl, rfl⟩ : some (⟨g, 0, none⟩ : Addr) = a2 ∧ cap = c2 := by cases e3; exact ⟨rfl, rfl⟩
        have k3U := (hbU.block g (lt_of_block k3)).trans k3
        have e5 := (keep g cur k3U).trans ((hbU.block g (lt_of_block k3)))
        exact ⟨hp, g, cap, k1, by omega, ⟨cur, e5.trans k3⟩, isB_kept e4 e5⟩
  · refine ⟨h2.os.trans (hbU.os.trans hZ.os), h2.tape.trans (hbU.tape.trans hZ.tape), h2.output.trans (hbU.output.trans hZ.output), by omega, fun g hg hn => ?_⟩
    exact (h2.block g (by omega) (fun e => hn e.symm)).trans ((hbU.block g (by omega)).trans (hZ.block g hg))
end Go.Proofs.YtcodjknhnhdkfaaDoor.Im
