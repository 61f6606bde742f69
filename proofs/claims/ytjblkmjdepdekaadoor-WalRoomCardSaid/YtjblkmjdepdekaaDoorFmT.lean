
/- chains: the plain part -/
import Derived.Test.YtjblkmjdepdekaaDoorFmN
import Derived.Test.YtjblkmjdepdekaaDoorFm8
namespace Go.Proofs.YtjblkmjdepdekaaDoor.Fm
open Go.RowKit Go.Lib Go.Proofs.YtjblkmjdepdekaaDoor.By Go.Proofs.YtjblkmjdepdekaaDoor.Oc Go.Proofs.YtjblkmjdepdekaaDoor.Cr

abbrev Rc := UInt8 × List UInt8
/-- a chain of records behind a sum; its last sum -/
def cat (s : Nat) : List Rc → List UInt8
  | [] => []
  | (k, d) :: t => fb s k d ++ cat (fs s k d) t
def sm (s : Nat) : List Rc → Nat
  | [] => s
  | (k, d) :: t => sm (fs s k d) t
theorem cat_app (s : Nat) : ∀ l m : List Rc, cat s (l ++ m) = cat s l ++ cat (sm s l) m
  | [], _ => rfl
  | (k, d) :: l, m => by show fb s k d ++ cat (fs s k d) (l ++ m) = _; rw [cat_app (fs s k d) l m, ← List.append_assoc]; rfl
theorem sm_app (s : Nat) : ∀ l m : List Rc, sm s (l ++ m) = sm (sm s l) m
  | [], _ => rfl
  | (k, d) :: l, m => sm_app (fs s k d) l m
theorem sm_u32 {s : Nat} (h : U32 s) : ∀ l : List Rc, U32 (sm s l)
  | [] => h
  | (_, _) :: l => sm_u32 (more_u32 _ _) l
theorem cat_split (s : Nat) (l : List Rc) (i : Nat) : cat s l = cat s (l.take i) ++ cat (sm s (l.take i)) (l.drop i) := by
  rw [← cat_app, List.take_append_drop]
theorem cat_next (s : Nat) {l : List Rc} {i : Nat} (h : i < l.length) : cat s (l.take (i + 1)) = cat s (l.take i) ++ fb (sm s (l.take i)) l[i].1 l[i].2 ∧ sm s (l.take (i + 1)) = fs (sm s (l.take i)) l[i].1 l[i].2 := by
  rw [List.take_succ_eq_append_getElem h, cat_app, sm_app]
  exact ⟨by simp [cat], rfl⟩
theorem cat_here (s : Nat) {l : List Rc} {i : Nat} (h : i < l.length) : cat s l = cat s (l.take i) ++ (fb (sm s (l.take i)) l[i].1 l[i].2 ++ cat (sm s (l.take (i + 1))) (l.drop (i + 1))) := by
  rw [cat_split s l (i + 1), (cat_next s h).1, List.append_assoc]
/-- where records begin in a chain with whatever behind -/
theorem stt_cat (s : Nat) {l : List Rc} (t : List UInt8) (hl : ∀ x ∈ l, x.2.length ≤ 1024) : ∀ i, i ≤ l.length → stt (cat s l ++ t) s i = ((cat s (l.take i)).length, sm s (l.take i))
  | 0, _ => rfl
  | i + 1, hi => by
    have ih := stt_cat s t hl i (by omega)
    have hlt : i < l.length := by omega
    have e1 : (cat s l ++ t).drop (cat s (l.take i)).length = fb (sm s (l.take i)) l[i].1 l[i].2 ++ (cat (sm s (l.take (i + 1))) (l.drop (i + 1)) ++ t) := by
      rw [cat_here s hlt, List.append_assoc, List.append_assoc]; exact List.drop_left
    rw [stt_succ]
    unfold Fm.at'
    rw [ih]
    simp only
    rw [e1, nxt_fb _ _ (hl _ (List.getElem_mem hlt)), (cat_next s hlt).1, (cat_next s hlt).2, List.length_append]
theorem at_cat (s : Nat) {l : List Rc} (t : List UInt8) (hl : ∀ x ∈ l, x.2.length ≤ 1024) {i : Nat} (hi : i < l.length) : Fm.at' (cat s l ++ t) s i = (l[i], (fb (sm s (l.take i)) l[i].1 l[i].2).length, sm s (l.take (i + 1)), 0) := by
  have e1 : (cat s l ++ t).drop (cat s (l.take i)).length = fb (sm s (l.take i)) l[i].1 l[i].2 ++ (cat (sm s (l.take (i + 1))) (l.drop (i + 1)) ++ t) := by
    rw [cat_here s hi, List.append_assoc, List.append_assoc]; exact List.drop_left
  unfold Fm.at'
  rw [stt_cat s t hl i (by omega)]
  simp only
  rw [e1, nxt_fb _ _ (hl _ (List.getElem_mem hi)), (cat_next s hi).2]
/-- how far it goes on: from any of its records on -/
theorem good_stt (b : List UInt8) (s : Nat) : ∀ m, (∀ i, i < m → (Fm.at' b s i).2.2.2 = 0) → good b 0 s = good b (stt b s m).1 (stt b s m).2
  | 0, _ => rfl
  | m + 1, h => by
    rw [good_stt b s m (fun i hi => h i (by omega)), stt_succ]
    exact good_go (h m (by omega))
theorem good_stop {b : List UInt8} {s m : Nat} (h : ∀ i, i < m → (Fm.at' b s i).2.2.2 = 0) (he : (Fm.at' b s m).2.2.2 ≠ 0) : good b 0 s = stt b s m := by
  rw [good_stt b s m h]; exact good_end he

/-! ### a beginning of a frame -/
theorem dec_app : ∀ (l : List UInt8) (k X v : Nat) (r t : List UInt8), dec k X l = (v, r, 0) → dec k X (l ++ t) = (v, r ++ t, 0)
  | [], k, X, v, r, t, h => by simp [dec] at h
  | c :: l, k, X, v, r, t, h => by
    rw [List.cons_append]
    by_cases hb : (k = 9 ∧ 1 < c.toNat) ∨ (0 < k ∧ c.toNat = 0)
    · rw [dec_bad hb] at h; simp at h
    · by_cases hl : c.toNat < 128
      · rw [dec_last hb hl] at h ⊢
        simp only [Prod.mk.injEq, and_true] at h ⊢
        exact ⟨h.1, by rw [h.2]⟩
      · rw [dec_more hb hl] at h ⊢
        exact dec_app l (k + 1) _ v r t h
theorem dat_app {b : List UInt8} (t : List UInt8) (h : (dat b).2.2 = 0) : dat (b ++ t) = dat b := by
  have hok := dat_ok h
  by_cases h0 : 0 < b.length ∧ b.getD 0 0 ≠ 197
  · unfold dat at h; rw [if_pos h0] at h; simp at h
  · have h2 : ¬ b.length < 2 := by omega
    have hg : (b ++ t).getD 0 0 = b.getD 0 0 := by simp [List.getD, List.getElem?_append_left (show 0 < b.length by omega)]
    have h0' : ¬ (0 < (b ++ t).length ∧ (b ++ t).getD 0 0 ≠ 197) := by
      rw [hg]; intro e; exact h0 ⟨by omega, e.2⟩
    have h2' : ¬ (b ++ t).length < 2 := by rw [List.length_append]; omega
    have e1 := dat_rdr h0 h2
    have e2 := dat_rdr h0' h2'
    have hd : (b ++ t).drop 2 = b.drop 2 ++ t := by rw [List.drop_append_of_le_length (by omega)]
    have hz : (rdr (b.drop 2)).2.2 = 0 := by
      by_cases hz : (rdr (b.drop 2)).2.2 = 0
      · exact hz
      · rw [e1, if_pos hz] at h; exact h
    have hdz : (dec 0 0 (b.drop 2)).2.2 = 0 := by
      unfold rdr at hz; split at hz
      · assumption
      · exact hz
    have happ := dec_app (b.drop 2) 0 0 (dec 0 0 (b.drop 2)).1 (dec 0 0 (b.drop 2)).2.1 t (by rw [← hdz])
    have er : rdr ((b ++ t).drop 2) = rdr (b.drop 2) := by
      unfold rdr
      rw [hd, happ, if_pos rfl, if_pos hdz]
      simp only [List.length_append, Prod.mk.injEq, true_and, and_true]
      omega
    rw [e2, er]
    rw [e1] at h ⊢
    by_cases hx : (rdr (b.drop 2)).2.2 ≠ 0
    · rw [if_pos hx, if_pos hx]
    · rw [if_neg hx] at h
      rw [if_neg hx, if_neg hx]
      by_cases hy : 1024 < (rdr (b.drop 2)).1
      · rw [if_pos hy, if_pos hy]
      · rw [if_neg hy] at h
        rw [if_neg hy, if_neg hy]
        by_cases hs : b.length < 2 + (rdr (b.drop 2)).2.1 + (rdr (b.drop 2)).1 + 4
        · rw [if_pos hs] at h; simp at h
        · rw [if_neg hs, if_neg (by rw [List.length_append]; omega)]
theorem nxt_short {s j : Nat} {k : UInt8} {d : List UInt8} (hd' : d.length ≤ 1024) (hj : j < (fb s k d).length) : (nxt s ((fb s k d).take j)).2.2.2 ≠ 0 := by
  intro h
  obtain ⟨h1, _⟩ := nxt_ok h
  have hok := dat_ok h1
  have e := dat_app ((fb s k d).drop j) h1
  rw [List.take_append_drop] at e
  have e2 := dat_hd (k := k) (t := le4 (fs s k d)) hd' (by simp [le4_len])
  rw [show hd k d ++ le4 (fs s k d) = fb s k d from rfl, e] at e2
  rw [e2] at hok
  rw [List.length_take, fb_len] at hok
  rw [fb_len] at hj
  simp only at hok
  omega

/-- of a chain that is cut as many are told as are whole -/
theorem cut_ok {s c m : Nat} {l : List Rc} (hl : ∀ x ∈ l, x.2.length ≤ 1024) (hm : m ≤ l.length) (h1 : (cat s (l.take m)).length ≤ c) (h2 : m < l.length → c < (cat s (l.take (m + 1))).length) :
    (∀ i, i < m → (Fm.at' ((cat s l).take c) s i).2.2.2 = 0) ∧ (Fm.at' ((cat s l).take c) s m).2.2.2 ≠ 0 := by
  have e : (cat s l).take c = cat s (l.take m) ++ (cat (sm s (l.take m)) (l.drop m)).take (c - (cat s (l.take m)).length) := by
    conv => lhs; rw [cat_split s l m]
    rw [List.take_append, List.take_of_length_le h1]
  have hlm : (l.take m).length = m := by rw [List.length_take]; omega
  have hlt : ∀ x ∈ l.take m, x.2.length ≤ 1024 := fun x hx => hl x (List.mem_of_mem_take hx)
  rw [e]
  refine ⟨fun i hi => ?_, ?_⟩
  · rw [at_cat s (l := l.take m) _ hlt (i := i) (by omega)]
  · have hst := stt_cat s (l := l.take m) ((cat (sm s (l.take m)) (l.drop m)).take (c - (cat s (l.take m)).length)) hlt m (by omega)
    rw [List.take_take, Nat.min_self] at hst
    unfold Fm.at'
    rw [hst]
    simp only
    rw [List.drop_left]
    by_cases hml : m < l.length
    · have hx := hl _ (List.getElem_mem hml)
      have hc := h2 hml
      rw [(cat_next s hml).1, List.length_append] at hc
      have ed : cat (sm s (l.take m)) (l.drop m) = fb (sm s (l.take m)) l[m].1 l[m].2 ++ cat (fs (sm s (l.take m)) l[m].1 l[m].2) (l.drop (m + 1)) := by
        rw [List.drop_eq_getElem_cons hml]; rfl
      rw [ed, List.take_append_of_le_length (by omega)]
      exact nxt_short hx (by omega)
    · have ed : l.drop m = [] := by rw [List.drop_eq_nil_iff]; omega
      rw [ed]
      show (nxt _ ([].take _)).2.2.2 ≠ 0
      rw [List.take_nil]
      exact nxt_nil _
end Go.Proofs.YtjblkmjdepdekaaDoor.Fm
