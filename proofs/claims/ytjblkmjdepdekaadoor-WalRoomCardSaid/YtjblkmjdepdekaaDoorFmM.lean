
/- frames and chains: the plain mathematics -/
import Derived.Test.YtjblkmjdepdekaaDoorRm
import Derived.Test.YtjblkmjdepdekaaDoorCrM
namespace Go.Proofs.YtjblkmjdepdekaaDoor.Fm
open Go.RowKit Go.Lib Go.Proofs.YtjblkmjdepdekaaDoor.Oc Go.Proofs.YtjblkmjdepdekaaDoor.Cr

/-- a frame ahead of its sum; the sum; all of it -/
def hd (k : UInt8) (d : List UInt8) : List UInt8 := [197, k] ++ (uvarint d.length ++ d)
def fs (s : Nat) (k : UInt8) (d : List UInt8) : Nat := more s (hd k d)
def fb (s : Nat) (k : UInt8) (d : List UInt8) : List UInt8 := hd k d ++ le4 (fs s k d)
theorem le4_len (x : Nat) : (le4 x).length = 4 := rfl
theorem fb_len (s : Nat) (k : UInt8) (d : List UInt8) : (fb s k d).length = (hd k d).length + 4 := by unfold fb; rw [List.length_append, le4_len]
theorem hd_len (k : UInt8) (d : List UInt8) : (hd k d).length = 2 + (uvarint d.length).length + d.length := by unfold hd; simp; omega
theorem uv_two {n : Nat} (h : n < 16384) : 1 ≤ (uvarint n).length ∧ (uvarint n).length ≤ 2 := by
  by_cases h1 : n < 128
  · rw [uvarint_small h1]; simp
  · rw [uvarint_big (by omega), uvarint_small (by omega)]; simp
theorem fb_le {k : UInt8} {d : List UInt8} (s : Nat) (h : d.length ≤ 1024) : (fb s k d).length ≤ 1032 := by
  rw [fb_len, hd_len]; have := uv_two (n := d.length) (by omega); omega

/-- where the data of the frame that bytes begin with begin, and end -/
def num (b : List UInt8) : Nat × List UInt8 × Int := cnt 1024 ((b.take 12).drop 2)
def dat (b : List UInt8) : Nat × Nat × Int :=
  if 0 < b.length ∧ b.getD 0 0 ≠ 197 then (0, 0, 2) else if b.length < 2 then (0, 0, 4) else if (num b).2.2 ≠ 0 then (0, 0, (num b).2.2) else
  if b.length - (2 + ((b.take 12).drop 2).length - (num b).2.1.length) < (num b).1 + 4 then (0, 0, 4) else
  (2 + ((b.take 12).drop 2).length - (num b).2.1.length, 2 + ((b.take 12).drop 2).length - (num b).2.1.length + (num b).1, 0)
/-- the record that bytes begin with -/
def nxt (s : Nat) (b : List UInt8) : (UInt8 × List UInt8) × Nat × Nat × Int :=
  if (dat b).2.2 ≠ 0 then ((0, []), 0, 0, (dat b).2.2) else
  if (b.drop (dat b).2.1).take 4 ≠ le4 (more s (b.take (dat b).2.1)) then ((0, []), 0, 0, 5) else
  ((b.getD 1 0, (b.take (dat b).2.1).drop (dat b).1), (dat b).2.1 + 4, more s (b.take (dat b).2.1), 0)

theorem cnt_len (m : Nat) (l : List UInt8) : (cnt m l).2.1.length ≤ l.length := by
  unfold cnt; split
  · exact dec_len l 0 0
  · simp
theorem dat_ok {b : List UInt8} (h : (dat b).2.2 = 0) : 2 ≤ b.length ∧ 2 ≤ (dat b).1 ∧ (dat b).1 ≤ (dat b).2.1 ∧ (dat b).2.1 + 4 ≤ b.length ∧ (dat b).2.1 - (dat b).1 ≤ 1024 := by
  have hc := cnt_len 1024 ((b.take 12).drop 2)
  have hm := cnt_le 1024 ((b.take 12).drop 2)
  have ht : ((b.take 12).drop 2).length ≤ b.length - 2 := by simp; omega
  unfold dat at h ⊢
  unfold num at *
  split at h
  · simp at h
  · split at h
    · simp at h
    · split at h
      · exact absurd h ‹_›
      · split at h
        · simp at h
        · rename_i h1 h2 h3 h4
          rw [if_neg h1, if_neg h2, if_neg h3, if_neg h4]
          refine ⟨?_, ?_, ?_, ?_, ?_⟩ <;> (try simp only) <;> omega
theorem nxt_ok {s : Nat} {b : List UInt8} (h : (nxt s b).2.2.2 = 0) : (dat b).2.2 = 0 ∧ (nxt s b).2.1 = (dat b).2.1 + 4 ∧ (b.drop (dat b).2.1).take 4 = le4 (more s (b.take (dat b).2.1)) ∧ (nxt s b).2.2.1 = more s (b.take (dat b).2.1) := by
  unfold nxt at h ⊢
  split at h
  · exact absurd h ‹_›
  · split at h
    · simp at h
    · rename_i h1 h2
      rw [if_neg h1, if_neg h2]
      exact ⟨Classical.byContradiction h1, rfl, Classical.byContradiction h2, rfl⟩
theorem nxt_len {s : Nat} {b : List UInt8} (h : (nxt s b).2.2.2 = 0) : 6 ≤ (nxt s b).2.1 ∧ (nxt s b).2.1 ≤ b.length := by
  obtain ⟨h1, h2, _⟩ := nxt_ok h
  have := dat_ok h1
  rw [h2]; omega
theorem nxt_bad {s : Nat} {b : List UInt8} (h : (nxt s b).2.2.2 ≠ 0) : nxt s b = ((0, []), 0, 0, (nxt s b).2.2.2) := by
  unfold nxt at h ⊢
  split at h
  · rw [if_pos ‹_›]
  · split at h
    · rw [if_neg ‹_›, if_pos ‹_›]
    · exact absurd rfl h
theorem nxt_u32 (s : Nat) (b : List UInt8) : U32 (nxt s b).2.2.1 := by
  unfold nxt
  split
  · exact U32.zero
  · split
    · exact U32.zero
    · exact more_u32 _ _

/-- the length of a frame, read -/
theorem num_hd {k : UInt8} {d t : List UInt8} (h : d.length ≤ 1024) : (197 :: k :: (uvarint d.length ++ (d ++ t))).take 12 = 197 :: k :: (uvarint d.length ++ (d ++ t).take (10 - (uvarint d.length).length)) := by
  have hu := uv_two (n := d.length) (by omega)
  simp only [List.take_succ_cons, List.cons.injEq, true_and]
  rw [List.take_append, List.take_of_length_le (by omega)]
theorem dat_hd {k : UInt8} {d t : List UInt8} (h : d.length ≤ 1024) (ht : 4 ≤ t.length) : dat (hd k d ++ t) = (2 + (uvarint d.length).length, (hd k d).length, 0) := by
  have hu := uv_two (n := d.length) (by omega)
  have hU : U64 d.length := by unfold U64; omega
  have e0 : hd k d ++ t = 197 :: k :: (uvarint d.length ++ (d ++ t)) := by unfold hd; simp
  have e1 := num_hd (k := k) (t := t) h
  have e2 : num (hd k d ++ t) = (d.length, (d ++ t).take (10 - (uvarint d.length).length), 0) := by
    unfold num cnt
    rw [e0, e1]
    simp only [List.drop_succ_cons, List.drop_zero]
    rw [dec_uv0 hU, if_pos h]
  have e3 : (((hd k d ++ t).take 12).drop 2).length = (uvarint d.length).length + ((d ++ t).take (10 - (uvarint d.length).length)).length := by
    rw [e0, e1]; simp only [List.drop_succ_cons, List.drop_zero, List.length_append]
  have e4 : (hd k d ++ t).length = 2 + (uvarint d.length).length + d.length + t.length := by rw [List.length_append, hd_len]
  have e5 : (hd k d ++ t).getD 0 0 = 197 := by rw [e0]; rfl
  unfold dat
  rw [e2, e3, e4, e5, hd_len]
  rw [if_neg (by simp), if_neg (by omega), if_neg (by simp), if_neg (by simp only; omega)]
  simp only [Prod.mk.injEq, and_true]
  omega
/-- what is written is read, whatever is behind -/
theorem nxt_fb {k : UInt8} {d : List UInt8} (s : Nat) (t : List UInt8) (h : d.length ≤ 1024) : nxt s (fb s k d ++ t) = ((k, d), (fb s k d).length, fs s k d, 0) := by
  have e0 : fb s k d ++ t = hd k d ++ (le4 (fs s k d) ++ t) := by unfold fb; rw [List.append_assoc]
  have e1 := dat_hd (k := k) (t := le4 (fs s k d) ++ t) h (by simp [le4_len])
  unfold nxt
  rw [e0, e1]
  simp only [ne_eq, not_true_eq_false, if_false]
  rw [List.drop_left, List.take_left, List.take_left' (le4_len _)]
  rw [if_neg (by simp [fs]), fb_len]
  have e2 : (hd k d).drop (2 + (uvarint d.length).length) = d := by
    unfold hd
    rw [show 2 + (uvarint d.length).length = ([197, k] ++ uvarint d.length).length by simp; omega, ← List.append_assoc, List.drop_left]
  rw [e2]
  have e3 : (hd k d ++ (le4 (fs s k d) ++ t)).getD 1 0 = k := by unfold hd; rfl
  rw [e3]; rfl

/-! ### chains -/
def walk (b : List UInt8) : Nat → Nat → Nat → Nat × Nat
  | 0, at', s => (at', s)
  | f + 1, at', s => if (nxt s (b.drop at')).2.2.2 ≠ 0 then (at', s) else walk b f (at' + (nxt s (b.drop at')).2.1) (nxt s (b.drop at')).2.2.1
theorem walk_fuel (b : List UInt8) : ∀ (f g at' s : Nat), b.length - at' < f → b.length - at' < g → walk b f at' s = walk b g at' s
  | f + 1, g + 1, at', s, hf, hg => by
    unfold walk
    split
    · rfl
    · have h0 : (nxt s (b.drop at')).2.2.2 = 0 := Classical.byContradiction ‹_›
      have hl := nxt_len h0
      rw [List.length_drop] at hl
      exact walk_fuel b f g _ _ (by omega) (by omega)
/-- how far it goes on from a place, and the sum there -/
def good (b : List UInt8) (at' s : Nat) : Nat × Nat := walk b (b.length + 1) at' s
theorem good_end {b : List UInt8} {at' s : Nat} (h : (nxt s (b.drop at')).2.2.2 ≠ 0) : good b at' s = (at', s) := by
  unfold good walk; rw [if_pos h]
theorem good_go {b : List UInt8} {at' s : Nat} (h : (nxt s (b.drop at')).2.2.2 = 0) : good b at' s = good b (at' + (nxt s (b.drop at')).2.1) (nxt s (b.drop at')).2.2.1 := by
  have hl := nxt_len h
  rw [List.length_drop] at hl
  rw [good, walk, if_neg (by simp [h])]
  exact walk_fuel b _ _ _ _ (by omega) (by omega)
theorem nxt_nil (s : Nat) : (nxt s []).2.2.2 ≠ 0 := by unfold nxt dat; simp
theorem good_fb {p t : List UInt8} {k : UInt8} {d : List UInt8} (s : Nat) (h : d.length ≤ 1024) : good (p ++ (fb s k d ++ t)) p.length s = good (p ++ (fb s k d ++ t)) (p ++ fb s k d).length (fs s k d) := by
  have e := nxt_fb s t h (k := k)
  have e1 : (p ++ (fb s k d ++ t)).drop p.length = fb s k d ++ t := List.drop_left
  rw [good_go (by rw [e1, e]), e1, e, List.length_append]
theorem good_all (b : List UInt8) (s : Nat) : good b b.length s = (b.length, s) := good_end (by rw [List.drop_length]; exact nxt_nil s)
end Go.Proofs.YtjblkmjdepdekaaDoor.Fm
