
/- rows of bytes that are written -/
import Derived.Test.YtjblkmjdepdekaaDoorBy
import Derived.Laws.Tables
import Derived.Laws.MakeOwn
import Derived.Laws.BitsAllLaws
import Derived.Lib.SmallJoins
import Derived.StillTailTactics
import Derived.Deep.QuietTactic
import Derived.BigQuiet
namespace Go.Proofs.YtjblkmjdepdekaaDoor.By
open Go.RowKit Go.Lib Go.Joins

theorem add_lit (g o j : Nat) : (⟨g, o, none⟩ : Addr).add j = ⟨g, o + j, none⟩ := by unfold Addr.add; split <;> simp_all
/-- a block that begins with the bytes l -/
def Blk (w : World) (b cap : Nat) (l : List UInt8) : Prop :=
  ∃ cur, w.heap[b]? = some (.cells cur 5 (0, 0)) ∧ cur.size = cap ∧ l.length ≤ cap ∧ cur.toList.take l.length = byteCells l
theorem Blk.lt {w : World} {b cap : Nat} {l : List UInt8} (h : Blk w b cap l) : b < w.heap.size := by
  obtain ⟨cur, h1, _⟩ := h; exact lt_of_block h1
theorem Blk.cell {w : World} {b cap : Nat} {l : List UInt8} (h : Blk w b cap l) {k : Nat} (hk : k < l.length) : w.cell? ⟨b, k, none⟩ = some (.int .u8 (l[k].toNat : Nat)) := by
  obtain ⟨cur, h1, h2, h3, h4⟩ := h
  have e : cur.toList[k]? = some (.int .u8 (l[k].toNat : Nat)) := by
    have : (cur.toList.take l.length)[k]? = some (.int .u8 (l[k].toNat : Nat)) := by rw [h4]; simp [byteCells, hk]
    rwa [List.getElem?_take_of_lt hk] at this
  rw [cell_of_block h1]
  simpa using e
theorem Blk.cellD {w : World} {b cap : Nat} {l : List UInt8} (h : Blk w b cap l) {k : Nat} (hk : k < l.length) : w.cell? ⟨b, k, none⟩ = some (.int .u8 ((l.getD k 0).toNat : Nat)) := by
  rw [h.cell hk]; simp [List.getD, hk]
theorem Blk.free {w : World} {b cap : Nat} {l : List UInt8} (h : Blk w b cap l) (k : Nat) : w.frozen? ⟨b, k, none⟩ = false := by
  obtain ⟨cur, h1, _⟩ := h; exact unfrozen_of_block h1 k
theorem Blk.isB {w : World} {b cap : Nat} {l : List UInt8} (h : Blk w b cap l) (hm : cap ≤ maxLen) : IsB w (some ⟨b, 0, none⟩) l.length cap l := by
  refine ⟨rfl, .inr ⟨_, rfl, ?_, hm, fun j u hu => ?_⟩⟩
  · obtain ⟨cur, h1, h2, h3, h4⟩ := h; exact h3
  · have hj : j < l.length := by have := (List.getElem?_eq_some_iff.1 hu).1; simpa [byteCells] using this
    have e := h.cell hj
    simp [byteCells, hj] at hu
    subst hu
    rw [add_lit, Nat.zero_add]; exact e
theorem Blk.set {w : World} {b cap : Nat} {l : List UInt8} (h : Blk w b cap l) (k : Nat) (c : UInt8) {v : Int} (hv : v = (c.toNat : Nat)) : Blk (w.setCell ⟨b, k, none⟩ (.int .u8 v)) b cap (l.set k c) := by
  subst hv
  obtain ⟨cur, h1, h2, h3, h4⟩ := h
  refine ⟨_, block_setCell h1 _, by simpa using h2, by simpa using h3, ?_⟩
  rw [List.length_set, Array.toList_setIfInBounds, List.take_set, h4]
  simp [byteCells, List.map_set]
theorem Blk.same {w w' : World} {b cap : Nat} {l : List UInt8} (h : Blk w b cap l) (hh : w'.heap[b]? = w.heap[b]?) : Blk w' b cap l := by
  obtain ⟨cur, h1, h2⟩ := h; exact ⟨cur, hh.trans h1, h2⟩
theorem Blk.own {w : World} {B n cap : Nat} {g : Addr} {l : List UInt8} (h : w.ownsRow B 5 1 (.slice (some g) n cap) n (byteCells l)) (hn : n = l.length) : ∃ b, g = ⟨b, 0, none⟩ ∧ B ≤ b ∧ Blk w b cap l ∧ cap ≤ maxLen := by
  subst hn
  rcases h.2 with ⟨h1, _⟩ | ⟨b, c, cur, h1, h2, h3, h4, h5, h6, h7⟩
  · simp at h1
  · simp only [Value.slice.injEq, Option.some.injEq, true_and] at h1
    obtain ⟨rfl, rfl⟩ := h1
    exact ⟨b, rfl, h2, ⟨cur, h3, by omega, h4, by simpa using h7⟩, h5⟩
theorem Blk.made {w : World} {n : Nat} : Blk (w.alloc (.cells (madeCells #[.int .u8 0] n) 5)) w.heap.size n (List.replicate n 0) := by
  refine ⟨_, heap_alloc_new w _, size_madeCells _ _, by simp, ?_⟩
  rw [List.take_of_length_le (by simp [madeCells])]
  simp [madeCells, byteCells, List.map_replicate, Array.toList_map]
  apply List.ext_getElem
  · simp
  · intro i h1 h2
    simp [Nat.mod_one]
/-- 'make([]byte, n)' -/
theorem run_makeBytes (w : World) {n : Nat} (h : n ≤ 1000000000000) :
    (Instr.makeSlice 32 (.int .i64 (n : Int)) (.int .i64 (n : Int))).run Tryd.prog w = .ok (.slice (some ⟨w.heap.size, 0, none⟩) n n) (w.alloc (.cells (madeCells #[.int .u8 0] n) 5)) := by
  obtain ⟨i0, hi, hz0, hz1, hz2⟩ := info_parts info5
  have hr := run_make (P := Tryd.prog) w 32 5 i0 (.int .u8 0) Tryd.underlying32 hi hz0 .i64 .i64 n n (by omega) (by omega) (by rw [hz2]; omega) (by omega)
  rw [hz1, Nat.mul_one, Int.toNat_natCast] at hr
  exact hr
theorem xor_u8 (a b : UInt8) : bits .xor .u8 (a.toNat : Int) (b.toNat : Int) = ((a ^^^ b).toNat : Nat) := by
  rw [u8_xor_nat _ _ a.toNat_lt b.toNat_lt, UInt8.toNat_xor]
end Go.Proofs.YtjblkmjdepdekaaDoor.By
