
/- what the law's next tells is what Next tells: the plain part -/
import Derived.Test.YtjblkmjdepdekaaDoorFmM
import Derived.Test.YtjblkmjdepdekaaDoorFmR
namespace Go.Proofs.YtjblkmjdepdekaaDoor.Fm
open Go.RowKit Go.Lib Go.Proofs.YtjblkmjdepdekaaDoor.By Go.Proofs.YtjblkmjdepdekaaDoor.Oc Go.Proofs.YtjblkmjdepdekaaDoor.Cr

/-- what is read is in its shortest form -/
theorem dec_back : ∀ (l : List UInt8) (k X v : Nat) (r : List UInt8), dec k X l = (v, r, 0) → ∃ y, v = X + y * 128 ^ k ∧ l = uvarint y ++ r ∧ (0 < k → 0 < y)
  | [], k, X, v, r, h => by simp [dec] at h
  | c :: t, k, X, v, r, h => by
    have hc := c.toNat_lt
    by_cases hb : (k = 9 ∧ 1 < c.toNat) ∨ (0 < k ∧ c.toNat = 0)
    · rw [dec_bad hb] at h; simp at h
    · by_cases hl : c.toNat < 128
      · rw [dec_last hb hl] at h
        obtain ⟨h1, h2⟩ := Prod.mk.inj h
        obtain ⟨h2, _⟩ := Prod.mk.inj h2
        refine ⟨c.toNat, ?_, ?_, fun h0 => ?_⟩
        · rw [← h1, Nat.mod_eq_of_lt hl]
        · rw [uvarint_small hl, h2]
          have : c.toNat.toUInt8 = c := by simp [Nat.toUInt8]
          rw [this]; rfl
        · rcases Nat.eq_zero_or_pos c.toNat with h3 | h3
          · exact absurd (.inr ⟨h0, h3⟩) hb
          · exact h3
      · rw [dec_more hb hl] at h
        obtain ⟨y, h1, h2, h3⟩ := dec_back t (k + 1) _ v r h
        have hy := h3 (by omega)
        refine ⟨c.toNat % 128 + 128 * y, ?_, ?_, fun _ => by omega⟩
        · rw [h1, Nat.pow_succ, Nat.add_mul, Nat.add_assoc]
          congr 2
          rw [Nat.mul_comm (128 ^ k) 128, ← Nat.mul_assoc, Nat.mul_comm y 128]
        · rw [uvarint_big (by omega), h2]
          have e1 : (c.toNat % 128 + 128 * y) % 128 + 128 = c.toNat := by omega
          have e2 : (c.toNat % 128 + 128 * y) / 128 = y := by omega
          rw [e1, e2]
          have : c.toNat.toUInt8 = c := by simp [Nat.toUInt8]
          rw [this]; rfl
/-- ten bytes are enough -/
theorem dec_take : ∀ (l : List UInt8) (k X j : Nat), k + j = 10 → 0 < j → (dec k X (l.take j)).1 = (dec k X l).1 ∧ (dec k X (l.take j)).2.2 = (dec k X l).2.2 ∧ ((dec k X l).2.2 = 0 → (l.take j).length - (dec k X (l.take j)).2.1.length = l.length - (dec k X l).2.1.length)
  | [], k, X, j, _, _ => by simp
  | c :: t, k, X, 0, _, h0 => by omega
  | c :: t, k, X, j + 1, hj, _ => by
    rw [List.take_succ_cons]
    have hc := c.toNat_lt
    by_cases hb : (k = 9 ∧ 1 < c.toNat) ∨ (0 < k ∧ c.toNat = 0)
    · rw [dec_bad hb, dec_bad hb]; simp
    · by_cases hl : c.toNat < 128
      · rw [dec_last hb hl, dec_last hb hl]
        refine ⟨rfl, rfl, fun _ => ?_⟩
        simp only [List.length_cons]
        omega
      · rw [dec_more hb hl, dec_more hb hl]
        have hj0 : 0 < j := by omega
        obtain ⟨h1, h2, h3⟩ := dec_take t (k + 1) (X + c.toNat % 128 * 128 ^ k) j (by omega) hj0
        refine ⟨h1, h2, fun h => ?_⟩
        have := h3 h
        have l1 := dec_len t (k + 1) (X + c.toNat % 128 * 128 ^ k)
        have l2 := dec_len (t.take j) (k + 1) (X + c.toNat % 128 * 128 ^ k)
        simp only [List.length_cons]
        omega

/-- how the data begins and ends, by the document's Read -/
theorem dat_rdr {b : List UInt8} (h0 : ¬ (0 < b.length ∧ b.getD 0 0 ≠ 197)) (h2 : ¬ b.length < 2) :
    dat b = if (rdr (b.drop 2)).2.2 ≠ 0 then (0, 0, (rdr (b.drop 2)).2.2) else if 1024 < (rdr (b.drop 2)).1 then (0, 0, 15) else
      if b.length < 2 + (rdr (b.drop 2)).2.1 + (rdr (b.drop 2)).1 + 4 then (0, 0, 4) else (2 + (rdr (b.drop 2)).2.1, 2 + (rdr (b.drop 2)).2.1 + (rdr (b.drop 2)).1, 0) := by
  have e : (b.take 12).drop 2 = (b.drop 2).take 10 := by rw [List.drop_take]
  obtain ⟨t1, t2, t3⟩ := dec_take (b.drop 2) 0 0 10 rfl (by decide)
  have l1 := dec_len (b.drop 2) 0 0
  have l2 := dec_len ((b.drop 2).take 10) 0 0
  have lb : (b.drop 2).length = b.length - 2 := List.length_drop
  unfold dat num cnt rdr
  rw [if_neg h0, if_neg h2, e]
  obtain ⟨D, hD⟩ : ∃ D, D = dec 0 0 (b.drop 2) := ⟨_, rfl⟩
  obtain ⟨T, hT⟩ : ∃ T, T = dec 0 0 ((b.drop 2).take 10) := ⟨_, rfl⟩
  have hz := dec_zero ((b.drop 2).take 10) 0 0
  rw [← hD] at t1 t2 t3 l1 ⊢
  rw [← hT] at t1 t2 t3 l2 hz ⊢
  obtain ⟨D1, D2, D3⟩ := D
  obtain ⟨T1, T2, T3⟩ := T
  simp only at t1 t2 t3 l1 l2 hz ⊢
  subst t1 t2
  by_cases hd : T3 = 0
  · subst hd
    have t3 := t3 rfl
    by_cases hx : T1 ≤ 1024
    · rw [if_pos hx]
      simp only [ne_eq, not_true_eq_false, if_false, if_true]
      rw [if_neg (show ¬ 1024 < T1 by omega)]
      have e2 : 2 + ((b.drop 2).take 10).length - T2.length = 2 + ((b.drop 2).length - D2.length) := by omega
      rw [e2]
      by_cases hs : b.length < 2 + ((b.drop 2).length - D2.length) + T1 + 4
      · rw [if_pos hs, if_pos (by omega)]
      · rw [if_neg hs, if_neg (by omega)]
    · rw [if_neg hx]
      simp only [ne_eq, not_true_eq_false, if_false, if_true]
      rw [if_pos (show 1024 < T1 by omega)]
      simp
  · have hx := (hz hd).1
    subst hx
    simp [hd]

/-- the bytes up to the sum are a frame's -/
theorem take_hd {b : List UInt8} (h : (dat b).2.2 = 0) : b.take (dat b).2.1 = hd (b.getD 1 0) ((b.take (dat b).2.1).drop (dat b).1) := by
  have hok := dat_ok h
  by_cases h0 : 0 < b.length ∧ b.getD 0 0 ≠ 197
  · unfold dat at h; rw [if_pos h0] at h; simp at h
  · by_cases h2 : b.length < 2
    · omega
    · have hd1 := dat_rdr h0 h2
      rw [hd1] at h hok ⊢
      by_cases hr : (rdr (b.drop 2)).2.2 = 0
      · rw [if_neg (by simp [hr])] at h hok ⊢
        by_cases hx : 1024 < (rdr (b.drop 2)).1
        · rw [if_pos hx] at h; simp at h
        · rw [if_neg hx] at h hok ⊢
          by_cases hs : b.length < 2 + (rdr (b.drop 2)).2.1 + (rdr (b.drop 2)).1 + 4
          · rw [if_pos hs] at h; simp at h
          · rw [if_neg hs]
            simp only
            have hdz : (dec 0 0 (b.drop 2)).2.2 = 0 := by
              unfold rdr at hr; split at hr
              · assumption
              · exact hr
            have er : rdr (b.drop 2) = ((dec 0 0 (b.drop 2)).1, (b.drop 2).length - (dec 0 0 (b.drop 2)).2.1.length, 0) := by unfold rdr; rw [if_pos hdz]
            obtain ⟨y, h1, h3, _⟩ := dec_back (b.drop 2) 0 0 (dec 0 0 (b.drop 2)).1 (dec 0 0 (b.drop 2)).2.1 (by rw [← hdz])
            rw [Nat.pow_zero, Nat.mul_one, Nat.zero_add] at h1
            rw [er] at hs ⊢
            simp only at hs ⊢
            obtain ⟨v, hv⟩ : ∃ v, v = (dec 0 0 (b.drop 2)).1 := ⟨_, rfl⟩
            obtain ⟨r, hrr⟩ : ∃ r, r = (dec 0 0 (b.drop 2)).2.1 := ⟨_, rfl⟩
            rw [← hv] at h1 hs ⊢
            rw [← hrr] at h3 hs ⊢
            subst h1
            have hlen : (b.drop 2).length - r.length = (uvarint v).length := by rw [h3, List.length_append]; omega
            rw [hlen] at hs ⊢
            have hb : b = [197, b.getD 1 0] ++ (uvarint v ++ r) := by
              rw [← h3]
              match b, h2 with
              | [], h2 => simp at h2
              | [_], h2 => simp at h2
              | c0 :: c1 :: t, _ =>
                have : c0 = 197 := Classical.byContradiction fun hc => h0 ⟨by simp, hc⟩
                subst this; rfl
            have hrl : v + 4 ≤ r.length := by
              have := congrArg List.length hb
              simp only [List.length_append, List.length_cons, List.length_nil] at this
              omega
            have hk : b.getD 1 0 = b.getD 1 0 := rfl
            obtain ⟨kk, hkk⟩ : ∃ kk, kk = b.getD 1 0 := ⟨_, rfl⟩
            rw [← hkk] at hb ⊢
            have hT : b.take (2 + (uvarint v).length + v) = [197, kk] ++ (uvarint v ++ r.take v) := by
              rw [hb]
              have e1 : 2 + (uvarint v).length + v = ([197, kk] ++ uvarint v).length + v := by simp; omega
              rw [← List.append_assoc, e1, List.take_append, List.take_of_length_le (by omega), Nat.add_sub_cancel_left, List.append_assoc]
            have hD : (b.take (2 + (uvarint v).length + v)).drop (2 + (uvarint v).length) = r.take v := by
              rw [hT, ← List.append_assoc]
              exact List.drop_left' (by simp; omega)
            rw [hD, hT]
            unfold hd
            rw [List.length_take, Nat.min_eq_left (by omega)]
      · rw [if_pos (by simpa using hr)] at h
        exact absurd h hr
/-- what is held against the bytes -/
theorem nxt_fbq {s : Nat} {b : List UInt8} (h : (dat b).2.2 = 0) : (fb s (b.getD 1 0) ((b.take (dat b).2.1).drop (dat b).1)).length = (dat b).2.1 + 4 ∧ fs s (b.getD 1 0) ((b.take (dat b).2.1).drop (dat b).1) = more s (b.take (dat b).2.1) ∧
    (fb s (b.getD 1 0) ((b.take (dat b).2.1).drop (dat b).1) = b.take ((dat b).2.1 + 4) ↔ (b.drop (dat b).2.1).take 4 = le4 (more s (b.take (dat b).2.1))) := by
  have hok := dat_ok h
  have ht := take_hd h
  have e1 : fs s (b.getD 1 0) ((b.take (dat b).2.1).drop (dat b).1) = more s (b.take (dat b).2.1) := by unfold fs; rw [← ht]
  have hl : (b.take (dat b).2.1).length = (dat b).2.1 := by rw [List.length_take]; omega
  refine ⟨by rw [fb_len, ← ht, hl], e1, ?_⟩
  have e2 : fb s (b.getD 1 0) ((b.take (dat b).2.1).drop (dat b).1) = b.take (dat b).2.1 ++ le4 (more s (b.take (dat b).2.1)) := by unfold fb; rw [e1, ← ht]
  have e3 : b.take ((dat b).2.1 + 4) = b.take (dat b).2.1 ++ (b.drop (dat b).2.1).take 4 := by rw [List.take_add]
  rw [e2, e3, List.append_cancel_left_eq]
  exact ⟨fun h => h.symm, fun h => h.symm⟩
end Go.Proofs.YtjblkmjdepdekaaDoor.Fm
