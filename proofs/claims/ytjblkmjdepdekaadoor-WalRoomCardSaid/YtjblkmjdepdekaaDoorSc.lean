
/- many cells of a block are stored; sectors of a row (of no program but By) -/
import Derived.Test.YtjblkmjdepdekaaDoorDk2
import Derived.Deep.MidRow
namespace Go.Proofs.YtjblkmjdepdekaaDoor.Dk
open Go.RowKit Go.Lib Go.Proofs.YtjblkmjdepdekaaDoor.By

theorem heap_setCells {g : Nat} {t : TypeId} : ∀ (vs : List Value) (o : Nat) (cur : Array Value) (w : World), w.heap[g]? = some (.cells cur t (0, 0)) → o + vs.length ≤ cur.size →
    (w.setCells g o vs).heap[g]? = some (.cells (cur.toList.take o ++ vs ++ cur.toList.drop (o + vs.length)).toArray t (0, 0))
  | [], o, cur, w, hg, _ => by
    rw [World.setCells, hg]
    simp
  | v :: vs, o, cur, w, hg, hl => by
    rw [World.setCells]
    have hl' : o + 1 + vs.length ≤ cur.size := by simp at hl; omega
    rw [heap_setCells vs (o + 1) (cur.setIfInBounds o v) _ (heap_setCell_same w g o cur t v hg) (by simpa using hl')]
    congr 3
    have ho : o < cur.toList.length := by simp; omega
    rw [Array.toList_setIfInBounds, List.take_succ_eq_append_getElem (by simpa using ho), List.getElem_set_self, List.take_set, List.set_eq_of_length_le (by simp [Nat.min_le_left]), List.drop_set_of_lt (by omega)]
    simp [Nat.add_assoc, Nat.add_comm 1]
theorem heap_setCells_other {g k : Nat} (hk : k ≠ g) : ∀ (vs : List Value) (o : Nat) (w : World), (w.setCells g o vs).heap[k]? = w.heap[k]?
  | [], _, _ => rfl
  | v :: vs, o, w => by
    rw [World.setCells, heap_setCells_other hk vs]
    exact heap_setCell_other w _ k _ hk
theorem setCells_below {B g : Nat} (hB : B ≤ g) : ∀ (vs : List Value) (o : Nat) (w : World), Below B w (w.setCells g o vs)
  | [], _, w => Below.refl _ _
  | v :: vs, o, w => by
    rw [World.setCells]
    exact ((Below.refl B w).setCell (p := ⟨g, o, none⟩) hB v).trans (setCells_below hB vs (o + 1) _)
theorem length_setS {F b : List UInt8} {k n : Nat} (hF : F.length = 64 * n) (hk : k < n) (hb : b.length = 64) : (setS F k b).length = 64 * n := by
  unfold setS; simp [hF, hb]; omega
theorem getS_same {F b : List UInt8} {k n : Nat} (hF : F.length = 64 * n) (hk : k < n) (hb : b.length = 64) : getS (setS F k b) k = b := by
  unfold getS setS
  have h1 : (F.take (64 * k)).length = 64 * k := by simp [hF]; omega
  rw [List.append_assoc, List.drop_left' h1, List.take_left' hb]
theorem getS_other {F b : List UInt8} {k j n : Nat} (hF : F.length = 64 * n) (hk : k < n) (hb : b.length = 64) (hj : j ≠ k) : getS (setS F k b) j = getS F j := by
  unfold getS setS
  apply List.ext_getElem?
  intro i
  by_cases hi : i < 64
  · rw [List.getElem?_take_of_lt hi, List.getElem?_take_of_lt hi, List.getElem?_drop, List.getElem?_drop]
    have h1 : (F.take (64 * k)).length = 64 * k := by simp [hF]; omega
    by_cases hlt : j < k
    · rw [List.append_assoc, List.getElem?_append_left (by omega), List.getElem?_take_of_lt (by omega)]
    · rw [List.getElem?_append_right (by simp only [List.length_append, h1, hb]; omega), List.getElem?_drop]
      congr 1
      simp only [List.length_append, h1, hb]; omega
  · rw [List.getElem?_eq_none (by simp; omega), List.getElem?_eq_none (by simp; omega)]
theorem byteCells_setS (F b : List UInt8) (k : Nat) : byteCells (setS F k b) = (byteCells F).take (64 * k) ++ byteCells b ++ (byteCells F).drop (64 * k + 64) := by
  unfold setS byteCells; simp [List.map_append, List.map_take, List.map_drop]
theorem seg_take {α : Type} {X b : List α} {o m N : Nat} (hb : b.length = m) (h : o + m ≤ N) (hN : N ≤ X.length) : (X.take o ++ b ++ X.drop (o + m)).take N = (X.take N).take o ++ b ++ (X.take N).drop (o + m) := by
  have hl : (X.take o ++ b).length = o + m := by simp [hb]; omega
  rw [List.take_append, List.take_of_length_le (l := X.take o ++ b) (by omega), hl, List.take_take, Nat.min_eq_left (by omega), List.drop_take]
theorem Fr.setCells {p : Nat → Prop} {a b : World} (h : Fr p a b) {g o : Nat} (hq : p g ∨ a.heap.size ≤ g) (vs : List Value) : Fr p a (b.setCells g o vs) := by
  have h0 : Below 0 b (b.setCells g o vs) := setCells_below (Nat.zero_le _) vs o b
  refine ⟨h0.os.trans h.os, h0.tape.trans h.tape, h0.output.trans h.output, Nat.le_trans h.size h0.size, fun k h1 h2 => ?_⟩
  have hk : k ≠ g := fun e => by subst e; rcases hq with hq | hq; exact h2 hq; omega
  exact (heap_setCells_other hk vs o b).trans (h.block k h1 h2)
theorem Fr.drew {p : Nat → Prop} {a b : World} (h : Fr p a b) : Fr p a b.drew := ⟨h.os, h.tape, h.output, h.size, h.block⟩
/-- a sector of an own row is stored -/
theorem own_sector {w : World} {B n cap g k : Nat} {e : TypeId} {F b : List UInt8} (h : w.ownsRow B e 64 (.slice (some ⟨g, 0, none⟩) n cap) n (byteCells F)) (hk : k < n) (hb : b.length = 64) :
    w.there g (k * 64) 64 ∧ (w.setCells g (k * 64) (byteCells b)).ownsRow B e 64 (.slice (some ⟨g, 0, none⟩) n cap) n (byteCells (setS F k b)) := by
  have hl := h.1
  have hF : F.length = 64 * n := by simp [byteCells] at hl; omega
  rcases h.2 with ⟨h1, _⟩ | ⟨g', cap', cur, h1, h2, h3, h4, h5, h6, h7⟩
  · simp at h1
  · simp only [Value.slice.injEq, Option.some.injEq, true_and] at h1
    obtain ⟨h0, rfl⟩ := h1
    simp at h0
    subst h0
    have hbl : (byteCells b).length = 64 := by simpa [byteCells] using hb
    have hsz : k * 64 + 64 ≤ cur.size := by rw [h6]; have : (k + 1) * 64 ≤ cap * 64 := Nat.mul_le_mul_right _ (by omega); omega
    refine ⟨fun j hj => ⟨?_, frozen_of_row w g _ cur e h3⟩, ?_, .inr ⟨g, cap, _, rfl, h2, heap_setCells (byteCells b) (k * 64) cur w h3 (by rw [hbl]; exact hsz), h4, h5, ?_, ?_⟩⟩
    · rw [cell_of_row w g _ cur e _ h3, Array.getElem?_eq_getElem (by omega)]; rfl
    · simp [byteCells, length_setS hF hk hb]; omega
    · simp [hbl]; omega
    · have hn : n * 64 ≤ cur.size := by rw [h6]; exact Nat.mul_le_mul_right _ h4
      rw [byteCells_setS, ← h7, hbl]
      show ((cur.toList.take (k * 64) ++ byteCells b ++ cur.toList.drop (k * 64 + 64)).take (n * 64)) = _
      rw [Nat.mul_comm 64 k]
      exact seg_take hbl (by omega) (by simpa using hn)
end Go.Proofs.YtjblkmjdepdekaaDoor.Dk
