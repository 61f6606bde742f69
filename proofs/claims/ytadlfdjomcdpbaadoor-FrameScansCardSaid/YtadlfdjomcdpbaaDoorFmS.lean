/- chains: what FrameScans says, the plain part -/
import Derived.Test.YtadlfdjomcdpbaaDoorFmN
import Derived.Test.YtadlfdjomcdpbaaDoorFrameChainsW
import Derived.Test.YtadlfdjomcdpbaaDoorFm8
import Derived.Test.YtadlfdjomcdpbaaDoorFm7
namespace Go.Proofs.YtadlfdjomcdpbaaDoor.Fm
open Go.RowKit Go.Lib Go.Proofs.YtadlfdjomcdpbaaDoor.By Go.Proofs.YtadlfdjomcdpbaaDoor.Oc Go.Proofs.YtadlfdjomcdpbaaDoor.Cr

abbrev Rc := UInt8 × List UInt8
/-- a chain of records behind a sum; its last sum -/
def cat (s : Nat) : List Rc → List UInt8
  | [] => []
  | (k, d) :: t => fb s k d ++ cat (fs s k d) t
def sm (s : Nat) : List Rc → Nat
  | [] => s
  | (k, d) :: t => sm (fs s k d) t
theorem cat_app (s : Nat) : ∀ l m : List Rc, cat s (l ++ m) = cat s l ++ cat (sm s l) m
  | [], _ => rfl
  | (k, d) :: l, m => by show fb s k d ++ cat (fs s k d) (l ++ m) = _; rw [cat_app (fs s k d) l m, ← List.append_assoc]; rfl
theorem sm_app (s : Nat) : ∀ l m : List Rc, sm s (l ++ m) = sm (sm s l) m
  | [], _ => rfl
  | (k, d) :: l, m => sm_app (fs s k d) l m
theorem sm_u32 {s : Nat} (h : U32 s) : ∀ l : List Rc, U32 (sm s l)
  | [] => h
  | (_, _) :: l => sm_u32 (more_u32 _ _) l
theorem cat_split (s : Nat) (l : List Rc) (i : Nat) : cat s l = cat s (l.take i) ++ cat (sm s (l.take i)) (l.drop i) := by
  rw [← cat_app, List.take_append_drop]
theorem cat_next (s : Nat) {l : List Rc} {i : Nat} (h : i < l.length) : cat s (l.take (i + 1)) = cat s (l.take i) ++ fb (sm s (l.take i)) l[i].1 l[i].2 ∧ sm s (l.take (i + 1)) = fs (sm s (l.take i)) l[i].1 l[i].2 := by
  rw [List.take_succ_eq_append_getElem h, cat_app, sm_app]
  exact ⟨by simp [cat], rfl⟩
theorem cat_here (s : Nat) {l : List Rc} {i : Nat} (h : i < l.length) : cat s l = cat s (l.take i) ++ (fb (sm s (l.take i)) l[i].1 l[i].2 ++ cat (sm s (l.take (i + 1))) (l.drop (i + 1))) := by
  rw [cat_split s l (i + 1), (cat_next s h).1, List.append_assoc]
/-- where records begin in a chain with whatever behind -/
theorem stt_cat (s : Nat) {l : List Rc} (t : List UInt8) (hl : ∀ x ∈ l, x.2.length ≤ 1024) : ∀ i, i ≤ l.length → stt (cat s l ++ t) s i = ((cat s (l.take i)).length, sm s (l.take i))
  | 0, _ => rfl
  | i + 1, hi => by
    have ih := stt_cat s t hl i (by omega)
    have hlt : i < l.length := by omega
    have e1 : (cat s l ++ t).drop (cat s (l.take i)).length = fb (sm s (l.take i)) l[i].1 l[i].2 ++ (cat (sm s (l.take (i + 1))) (l.drop (i + 1)) ++ t) := by
      rw [cat_here s hlt, List.append_assoc, List.append_assoc]; exact List.drop_left
    rw [stt_succ]
    unfold Fm.at'
    rw [ih]
    simp only
    rw [e1, nxt_fb _ _ (hl _ (List.getElem_mem hlt)), (cat_next s hlt).1, (cat_next s hlt).2, List.length_append]
theorem at_cat (s : Nat) {l : List Rc} (t : List UInt8) (hl : ∀ x ∈ l, x.2.length ≤ 1024) {i : Nat} (hi : i < l.length) : Fm.at' (cat s l ++ t) s i = (l[i], (fb (sm s (l.take i)) l[i].1 l[i].2).length, sm s (l.take (i + 1)), 0) := by
  have e1 : (cat s l ++ t).drop (cat s (l.take i)).length = fb (sm s (l.take i)) l[i].1 l[i].2 ++ (cat (sm s (l.take (i + 1))) (l.drop (i + 1)) ++ t) := by
    rw [cat_here s hi, List.append_assoc, List.append_assoc]; exact List.drop_left
  unfold Fm.at'
  rw [stt_cat s t hl i (by omega)]
  simp only
  rw [e1, nxt_fb _ _ (hl _ (List.getElem_mem hi)), (cat_next s hi).2]
/-- how far it goes on: from any of its records on -/
theorem good_stt (b : List UInt8) (s : Nat) : ∀ m, (∀ i, i < m → (Fm.at' b s i).2.2.2 = 0) → good b 0 s = good b (stt b s m).1 (stt b s m).2
  | 0, _ => rfl
  | m + 1, h => by
    rw [good_stt b s m (fun i hi => h i (by omega)), stt_succ]
    exact good_go (h m (by omega))
theorem good_stop {b : List UInt8} {s m : Nat} (h : ∀ i, i < m → (Fm.at' b s i).2.2.2 = 0) (he : (Fm.at' b s m).2.2.2 ≠ 0) : good b 0 s = stt b s m := by
  rw [good_stt b s m h]; exact good_end he

/-! ### a beginning of a frame -/
theorem dec_app : ∀ (l : List UInt8) (k X v : Nat) (r t : List UInt8), dec k X l = (v, r, 0) → dec k X (l ++ t) = (v, r ++ t, 0)
  | [], k, X, v, r, t, h => by simp [dec] at h
  | c :: l, k, X, v, r, t, h => by
    rw [List.cons_append]
    by_cases hb : (k = 9 ∧ 1 < c.toNat) ∨ (0 < k ∧ c.toNat = 0)
    · rw [dec_bad hb] at h; simp at h
    · by_cases hl : c.toNat < 128
      · rw [dec_last hb hl] at h ⊢
        simp only [Prod.mk.injEq, and_true] at h ⊢
        exact ⟨h.1, by rw [h.2]⟩
      · rw [dec_more hb hl] at h ⊢
        exact dec_app l (k + 1) _ v r t h
theorem dat_app {b : List UInt8} (t : List UInt8) (h : (dat b).2.2 = 0) : dat (b ++ t) = dat b := by
  have hok := dat_ok h
  by_cases h0 : 0 < b.length ∧ b.getD 0 0 ≠ 197
  · unfold dat at h; rw [if_pos h0] at h; simp at h
  · have h2 : ¬ b.length < 2 := by omega
    have hg : (b ++ t).getD 0 0 = b.getD 0 0 := by simp [List.getD, List.getElem?_append_left (show 0 < b.length by omega)]
    have h0' : ¬ (0 < (b ++ t).length ∧ (b ++ t).getD 0 0 ≠ 197) := by
      rw [hg]; intro e; exact h0 ⟨by omega, e.2⟩
    have h2' : ¬ (b ++ t).length < 2 := by rw [List.length_append]; omega
    have e1 := dat_rdr h0 h2
    have e2 := dat_rdr h0' h2'
    have hd : (b ++ t).drop 2 = b.drop 2 ++ t := by rw [List.drop_append_of_le_length (by omega)]
    have hz : (rdr (b.drop 2)).2.2 = 0 := by
      by_cases hz : (rdr (b.drop 2)).2.2 = 0
      · exact hz
      · rw [e1, if_pos hz] at h; exact h
    have hdz : (dec 0 0 (b.drop 2)).2.2 = 0 := by
      unfold rdr at hz; split at hz
      · assumption
      · exact hz
    have happ := dec_app (b.drop 2) 0 0 (dec 0 0 (b.drop 2)).1 (dec 0 0 (b.drop 2)).2.1 t (by rw [← hdz])
    have er : rdr ((b ++ t).drop 2) = rdr (b.drop 2) := by
      unfold rdr
      rw [hd, happ, if_pos rfl, if_pos hdz]
      simp only [List.length_append, Prod.mk.injEq, true_and, and_true]
      omega
    rw [e2, er]
    rw [e1] at h ⊢
    by_cases hx : (rdr (b.drop 2)).2.2 ≠ 0
    · rw [if_pos hx, if_pos hx]
    · rw [if_neg hx] at h
      rw [if_neg hx, if_neg hx]
      by_cases hy : 1024 < (rdr (b.drop 2)).1
      · rw [if_pos hy, if_pos hy]
      · rw [if_neg hy] at h
        rw [if_neg hy, if_neg hy]
        by_cases hs : b.length < 2 + (rdr (b.drop 2)).2.1 + (rdr (b.drop 2)).1 + 4
        · rw [if_pos hs] at h; simp at h
        · rw [if_neg hs, if_neg (by rw [List.length_append]; omega)]
theorem nxt_short {s j : Nat} {k : UInt8} {d : List UInt8} (hd' : d.length ≤ 1024) (hj : j < (fb s k d).length) : (nxt s ((fb s k d).take j)).2.2.2 ≠ 0 := by
  intro h
  obtain ⟨h1, _⟩ := nxt_ok h
  have hok := dat_ok h1
  have e := dat_app ((fb s k d).drop j) h1
  rw [List.take_append_drop] at e
  have e2 := dat_hd (k := k) (t := le4 (fs s k d)) hd' (by simp [le4_len])
  rw [show hd k d ++ le4 (fs s k d) = fb s k d from rfl, e] at e2
  rw [e2] at hok
  rw [List.length_take, fb_len] at hok
  rw [fb_len] at hj
  simp only at hok
  omega

/-! ### a byte that is turned -/
theorem run_set {s : Nat} (hs : U32 s) : ∀ (l : List UInt8) (j : Nat) (c : UInt8), j < l.length → l.getD j 0 ≠ c → run s (l.set j c) ≠ run s l
  | [], j, c, h, _ => by simp at h
  | x :: l, 0, c, _, hne => by
    intro e
    have h1 : upd s c = upd s x := run_inj (upd_u32 hs c) (upd_u32 hs x) l e
    have h2 := it_inj (hs.xor (U32.byte c)) (hs.xor (U32.byte x)) 8 h1
    have h3 := congrArg (fun z => s ^^^ z) h2
    simp only [← Nat.xor_assoc, Nat.xor_self, Nat.zero_xor] at h3
    exact hne (UInt8.toNat_inj.1 h3.symm)
  | x :: l, j + 1, c, h, hne => run_set (upd_u32 hs x) l j c (by simpa using h) (by simpa [List.getD] using hne)
theorem more_set {s j : Nat} {l : List UInt8} {c : UInt8} (hj : j < l.length) (hne : l.getD j 0 ≠ c) : more s (l.set j c) ≠ more s l := by
  intro e
  have h1 := congrArg tn e
  unfold more at h1
  rw [tn_tn (run_u32 (tn_u32 _) _), tn_tn (run_u32 (tn_u32 _) _)] at h1
  exact run_set (tn_u32 s) l j c hj hne h1
theorem set_ne {l : List UInt8} {j : Nat} {c : UInt8} (hj : j < l.length) (hne : l.getD j 0 ≠ c) : l.set j c ≠ l := by
  intro e
  have h1 : (l.set j c).getD j 0 = c := by simp [List.getD, hj]
  rw [e] at h1
  exact hne h1
/-- of a frame in which a byte is turned, but where the length stands, none is read -/
theorem nxt_turned {s j : Nat} {k c : UInt8} {d t : List UInt8} (hd' : d.length ≤ 1024) (hj : j < (fb s k d).length) (hne : (fb s k d).getD j 0 ≠ c) (hout : j < 2 ∨ 2 + (uvarint d.length).length ≤ j) :
    (nxt s ((fb s k d).set j c ++ t)).2.2.2 ≠ 0 := by
  have hfl := fb_len s k d
  have hhl := hd_len k d
  by_cases h0 : j = 0
  · subst h0
    have e : (fb s k d).set 0 c ++ t = c :: ((fb s k d).tail ++ t) := by unfold fb hd; simp
    have hc : c ≠ 197 := fun h => hne (by unfold fb hd; simp [List.getD, h])
    rw [nxt_e (s := s) (e := 2) (by rw [e]; unfold dat; rw [if_pos ⟨by simp, by simpa [List.getD] using hc⟩]) (by decide)]
    simp
  · by_cases hh : j < (hd k d).length
    · have e1 : (fb s k d).set j c = (hd k d).set j c ++ le4 (fs s k d) := by unfold fb; rw [List.set_append_left _ _ hh]
      have hgd : (hd k d).getD j 0 = (fb s k d).getD j 0 := by unfold fb; simp [List.getD, List.getElem?_append_left hh]
      have hms := more_set (s := s) (l := hd k d) (j := j) (c := c) hh (by rw [hgd]; exact hne)
      obtain ⟨k', d', e2, hdl⟩ : ∃ k' d', (hd k d).set j c = hd k' d' ∧ d'.length = d.length := by
        by_cases h1 : j = 1
        · subst h1
          exact ⟨c, d, by unfold hd; rfl, rfl⟩
        · have h2 : 2 + (uvarint d.length).length ≤ j := by omega
          refine ⟨k, d.set (j - (2 + (uvarint d.length).length)) c, ?_, by simp⟩
          unfold hd
          rw [List.length_set, List.set_append_right _ _ (by simp; omega), List.set_append_right _ _ (by simp; omega)]
          simp only [List.length_cons, List.length_nil]
          rw [show j - (0 + 1 + 1) - (uvarint d.length).length = j - (2 + (uvarint d.length).length) by omega]
      have e3 : (fb s k d).set j c ++ t = hd k' d' ++ (le4 (fs s k d) ++ t) := by rw [e1, e2, List.append_assoc]
      have e4 := dat_hd (k := k') (d := d') (t := le4 (fs s k d) ++ t) (by omega) (by simp [le4_len])
      rw [e3]
      unfold nxt
      rw [e4]
      simp only [ne_eq, not_true_eq_false, if_false]
      rw [List.drop_left, List.take_left, List.take_left' (le4_len _), if_pos]
      · simp
      · intro e
        rw [← e2] at e
        exact hms (le4_inj (more_u32 _ _) (more_u32 _ _) e).symm
    · have e1 : (fb s k d).set j c = hd k d ++ (le4 (fs s k d)).set (j - (hd k d).length) c := by unfold fb; rw [List.set_append_right _ _ (by omega)]
      have hgd : (le4 (fs s k d)).getD (j - (hd k d).length) 0 = (fb s k d).getD j 0 := by unfold fb; simp [List.getD, List.getElem?_append_right (show (hd k d).length ≤ j by omega)]
      have hjl : j - (hd k d).length < (le4 (fs s k d)).length := by rw [le4_len]; omega
      have hsn := set_ne (l := le4 (fs s k d)) (j := j - (hd k d).length) (c := c) hjl (by rw [hgd]; exact hne)
      have e3 : (fb s k d).set j c ++ t = hd k d ++ ((le4 (fs s k d)).set (j - (hd k d).length) c ++ t) := by rw [e1, List.append_assoc]
      have e4 := dat_hd (k := k) (d := d) (t := (le4 (fs s k d)).set (j - (hd k d).length) c ++ t) hd' (by simp [le4_len])
      rw [e3]
      unfold nxt
      rw [e4]
      simp only [ne_eq, not_true_eq_false, if_false]
      rw [List.drop_left, List.take_left, List.take_left' (by rw [List.length_set]; exact le4_len _), if_pos]
      · simp
      · exact fun e => hsn (by rw [e]; rfl)
/-- of a chain in which a byte of the i-th frame is turned, but where a length stands, no more is told than what is ahead of that frame -/
theorem good_turned {s i t : Nat} {l : List Rc} {c : UInt8} (hl : ∀ x ∈ l, x.2.length ≤ 1024) (hi : i < l.length) (ht : (cat s (l.take i)).length ≤ t) (ht2 : t < (cat s (l.take (i + 1))).length) (hne : (cat s l).getD t 0 ≠ c)
    (hout : t < (cat s (l.take i)).length + 2 ∨ (cat s (l.take i)).length + 2 + (uvarint l[i].2.length).length ≤ t) : (good ((cat s l).set t c) 0 s).1 ≤ t := by
  have hx := hl _ (List.getElem_mem hi)
  have e0 := cat_here s hi
  have e1 := (cat_next s hi).1
  rw [e1, List.length_append] at ht2
  obtain ⟨p, hp⟩ : ∃ p, p = cat s (l.take i) := ⟨_, rfl⟩
  obtain ⟨f, hf⟩ : ∃ f, f = fb (sm s (l.take i)) l[i].1 l[i].2 := ⟨_, rfl⟩
  obtain ⟨r, hr⟩ : ∃ r, r = cat (sm s (l.take (i + 1))) (l.drop (i + 1)) := ⟨_, rfl⟩
  rw [← hp, ← hf, ← hr] at e0
  rw [← hp] at ht hout
  rw [← hp, ← hf] at ht2
  have e2 : (cat s l).set t c = p ++ (f.set (t - p.length) c ++ r) := by
    rw [e0, List.set_append_right _ _ ht, List.set_append_left _ _ (by omega)]
  have e3 : f.getD (t - p.length) 0 = (cat s l).getD t 0 := by
    rw [e0]; simp [List.getD, List.getElem?_append_right ht, List.getElem?_append_left (show t - p.length < f.length by omega)]
  have hbad := nxt_turned (s := sm s (l.take i)) (j := t - p.length) (k := l[i].1) (c := c) (d := l[i].2) (t := r) hx (by rw [← hf]; omega) (by rw [← hf, e3]; exact hne) (by omega)
  rw [← hf] at hbad
  have hli : (l.take i).length = i := by rw [List.length_take]; omega
  have hlt : ∀ x ∈ l.take i, x.2.length ≤ 1024 := fun x hx => hl x (List.mem_of_mem_take hx)
  have hst := stt_cat s (l := l.take i) (f.set (t - p.length) c ++ r) hlt i (by omega)
  rw [List.take_take, Nat.min_self, ← hp] at hst
  have hgd := good_stop (b := p ++ (f.set (t - p.length) c ++ r)) (s := s) (m := i) (fun j hj => by
    have := at_cat s (l := l.take i) (f.set (t - p.length) c ++ r) hlt (i := j) (by omega)
    rw [← hp] at this
    rw [this]) (by
    unfold Fm.at'
    rw [hst]
    simp only
    rw [List.drop_left]
    exact hbad)
  rw [e2, hgd, hst]
  exact ht
/-- of a chain that is cut as many are told as are whole -/
theorem cut_ok {s c m : Nat} {l : List Rc} (hl : ∀ x ∈ l, x.2.length ≤ 1024) (hm : m ≤ l.length) (h1 : (cat s (l.take m)).length ≤ c) (h2 : m < l.length → c < (cat s (l.take (m + 1))).length) :
    (∀ i, i < m → (Fm.at' ((cat s l).take c) s i).2.2.2 = 0) ∧ (Fm.at' ((cat s l).take c) s m).2.2.2 ≠ 0 := by
  have e : (cat s l).take c = cat s (l.take m) ++ (cat (sm s (l.take m)) (l.drop m)).take (c - (cat s (l.take m)).length) := by
    conv => lhs; rw [cat_split s l m]
    rw [List.take_append, List.take_of_length_le h1]
  have hlm : (l.take m).length = m := by rw [List.length_take]; omega
  have hlt : ∀ x ∈ l.take m, x.2.length ≤ 1024 := fun x hx => hl x (List.mem_of_mem_take hx)
  rw [e]
  refine ⟨fun i hi => ?_, ?_⟩
  · rw [at_cat s (l := l.take m) _ hlt (i := i) (by omega)]
  · have hst := stt_cat s (l := l.take m) ((cat (sm s (l.take m)) (l.drop m)).take (c - (cat s (l.take m)).length)) hlt m (by omega)
    rw [List.take_take, Nat.min_self] at hst
    unfold Fm.at'
    rw [hst]
    simp only
    rw [List.drop_left]
    by_cases hml : m < l.length
    · have hx := hl _ (List.getElem_mem hml)
      have hc := h2 hml
      rw [(cat_next s hml).1, List.length_append] at hc
      have ed : cat (sm s (l.take m)) (l.drop m) = fb (sm s (l.take m)) l[m].1 l[m].2 ++ cat (fs (sm s (l.take m)) l[m].1 l[m].2) (l.drop (m + 1)) := by
        rw [List.drop_eq_getElem_cons hml]; rfl
      rw [ed, List.take_append_of_le_length (by omega)]
      exact nxt_short hx (by omega)
    · have ed : l.drop m = [] := by rw [List.drop_eq_nil_iff]; omega
      rw [ed]
      show (nxt _ ([].take _)).2.2.2 ≠ 0
      rw [List.take_nil]
      exact nxt_nil _
end Go.Proofs.YtadlfdjomcdpbaaDoor.Fm
