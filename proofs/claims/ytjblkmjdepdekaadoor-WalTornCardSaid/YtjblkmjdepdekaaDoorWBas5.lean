
/- texts that build one behind the other: Wl19 Wl20 Wl21 Wl22 Wl18 Wl23 Wl24 Wl25 Wl26 Op Par Pw Wl30 MoLaid -/
import Derived.Test.YtjblkmjdepdekaaDoorWBas4
import Derived.Test.YtjblkmjdepdekaaDoorRows
import Derived.ProofKit
import Derived.Deep.Slices
import Derived.Deep.Fields
import Derived.OpenShut
import Derived.ChangeOld
import Derived.Lib.SmallJoins
import Derived.Test.YtjblkmjdepdekaaDoorTie
import Derived.Test.YtjblkmjdepdekaaDoorCards
import Derived.LaidMore
import Derived.Lay
import Derived.SevenTiedAt
import Derived.Stop.Joined
/- logs: the plain mathematics of halves: what counts of a half that was written in parts -/
namespace Go.Proofs.YtjblkmjdepdekaaDoor.Wl
open Go.RowKit Go.Lib Go.Joins Go.Proofs.YtjblkmjdepdekaaDoor.By Go.Proofs.YtjblkmjdepdekaaDoor.Dk Go.Proofs.YtjblkmjdepdekaaDoor.Oc Go.Proofs.YtjblkmjdepdekaaDoor.Cr Go.Proofs.YtjblkmjdepdekaaDoor.Fm

/-- each sector of a half is of another turn, or holds a beginning of its part of a chain; the first so many bytes are there for sure -/
def Prt (b : List UInt8) (m t : Nat) (C : List UInt8) (lo : Nat) : Prop :=
  ∀ i, i < m → (trn (getS b i) ≠ t ∧ lo ≤ 55 * i) ∨ ∃ l, getS b i = secB t ((chn C i).take l) ∧ (lo ≤ 55 * i + l ∨ 55 ≤ l)
theorem drop_more (C : List UInt8) (i c : Nat) : chn C i ++ (C.drop (55 * (i + 1))).take c = (C.drop (55 * i)).take (55 + c) := by
  unfold chn
  rw [List.take_add, List.drop_drop, show 55 * i + 55 = 55 * (i + 1) by omega]
theorem cnb_part {b : List UInt8} {m t lo : Nat} {C : List UInt8} (ht : U64 t) (hlo : lo ≤ C.length) (hC : C.length ≤ 55 * m) (h : Prt b m t C lo) :
    ∀ f i, i ≤ m → m - i ≤ f → ∃ c, cnb t b m f i = (C.drop (55 * i)).take c ∧ lo ≤ 55 * i + c
  | 0, i, hi, hf => by
    obtain rfl : i = m := by omega
    exact ⟨0, by rw [List.take_zero]; rfl, by omega⟩
  | f + 1, i, hi, hf => by
    rcases Nat.lt_or_ge i m with hlt | hge
    · rcases h i hlt with ⟨h1, h2⟩ | ⟨l, h1, h2⟩
      · exact ⟨0, by rw [cnb_stop (fun h3 => h1 h3.1), List.take_zero], h2⟩
      · have hl55 : ((chn C i).take l).length ≤ 55 := by rw [List.length_take, chn_len]; omega
        have htr : trn (getS b i) = t := by rw [h1]; exact trn_secB ht
        have hct : ctn (getS b i) = ((chn C i).take l).length := by rw [h1]; exact ctn_secB hl55
        have hpl : ((chn C i).take l).length = min l (min 55 (C.length - 55 * i)) := by rw [List.length_take, chn_len]
        by_cases h55 : ((chn C i).take l).length < 55
        · refine ⟨((chn C i).take l).length, ?_, by omega⟩
          rw [cnb_last hlt htr (by omega), hct]
          have e := bytes_secB (t := t) (b := (chn C i).take l)
          rw [← h1] at e
          rw [e]
          unfold chn
          rw [List.take_take, List.length_take]
          exact List.take_eq_take_iff.2 (by rw [List.length_drop]; omega)
        · have hfull : (chn C i).take l = chn C i := List.take_of_length_le (by rw [chn_len]; omega)
          have hcl : (chn C i).length = 55 := by rw [hfull] at h55; rw [chn_len] at *; omega
          obtain ⟨c, hc1, hc2⟩ := cnb_part ht hlo hC h f (i + 1) (by omega) (by omega)
          refine ⟨55 + c, ?_, by omega⟩
          rw [cnb_more hlt htr (by rw [hct, hfull]; exact hcl), hc1]
          have e := bytes_secB (t := t) (b := (chn C i).take l)
          rw [← h1, hfull, hcl] at e
          rw [e]
          exact drop_more C i c
    · obtain rfl : i = m := by omega
      exact ⟨0, by rw [cnb_end, List.take_zero], by omega⟩
theorem trn_first (b : List UInt8) : trn (getS b 0) = trn b := by
  unfold trn getS; simp [List.take_take]
theorem cnt_part {b : List UInt8} {m t lo : Nat} {C : List UInt8} (hm : 1 ≤ m) (ht : U64 t) (ht1 : 1 ≤ t) (h0 : 0 < lo) (hlo : lo ≤ C.length) (hC : C.length ≤ 55 * m) (h : Prt b m t C lo) :
    trn b = t ∧ ∃ c, lo ≤ c ∧ cnt b m = C.take c := by
  have htr : trn b = t := by
    rw [← trn_first]
    rcases h 0 (by omega) with ⟨_, h2⟩ | ⟨l, h1, _⟩
    · omega
    · rw [h1]; exact trn_secB ht
  refine ⟨htr, ?_⟩
  obtain ⟨c, h1, h2⟩ := cnb_part ht hlo hC h m 0 (Nat.zero_le _) (by omega)
  refine ⟨c, by omega, ?_⟩
  unfold cnt
  rw [htr, if_neg (by omega), h1]
  simp
/-- the halves' sectors -/
theorem getS_half1 {D : List UInt8} {m i : Nat} (hi : i < m) : getS (half1 D m) i = getS D i := by
  unfold getS half1
  rw [List.drop_take, List.take_take, Nat.min_eq_left (by omega)]
theorem getS_half2 {D : List UInt8} {m i : Nat} (hi : i < m) : getS (half2 D m) i = getS D (m + i) := by
  unfold getS half2
  rw [List.drop_drop, List.drop_take, List.take_take, Nat.min_eq_left (by omega), show 64 * m + 64 * i = 64 * (m + i) by omega]
/-- a half, by its number -/
def half (hf : Nat) (D : List UInt8) (m : Nat) : List UInt8 := if hf = 0 then half1 D m else half2 D m
theorem getS_half {hf : Nat} {D : List UInt8} {m i : Nat} (h1 : hf ≤ 1) (hi : i < m) : getS (half hf D m) i = getS D (hf * m + i) := by
  unfold half
  by_cases h0 : hf = 0
  · subst h0; rw [if_pos rfl, getS_half1 hi]; simp
  · obtain rfl : hf = 1 := by omega
    rw [if_neg (by decide), getS_half2 hi]; simp
/-- the records of a chain that was cut are a beginning of all -/
theorem tells_cut {l : List Rc} {c : Nat} (hl : ∀ x ∈ l, x.2.length ≤ 1024) : ∃ k, k ≤ l.length ∧ Tells ((cat 0 l).take c) (l.take k) ∧ ((cat 0 (l.take k)).length ≤ c) ∧ (k < l.length → c < (cat 0 (l.take (k + 1))).length) := by
  have key : ∀ j, j ≤ l.length → (cat 0 (l.take j)).length ≤ c → ∃ k, k ≤ l.length ∧ (cat 0 (l.take k)).length ≤ c ∧ (k < l.length → c < (cat 0 (l.take (k + 1))).length) := by
    intro j
    induction hn : l.length - j generalizing j with
    | zero => exact fun hj hc => ⟨j, hj, hc, fun h => by omega⟩
    | succ n ih =>
      intro hj hc
      by_cases h2 : (cat 0 (l.take (j + 1))).length ≤ c
      · exact ih (j + 1) (by omega) (by omega) h2
      · exact ⟨j, hj, hc, fun _ => by omega⟩
  obtain ⟨k, hk, h1, h2⟩ := key 0 (Nat.zero_le _) (Nat.zero_le _)
  obtain ⟨a, b⟩ := cut_ok (s := 0) hl hk h1 h2
  have hlk : (l.take k).length = k := by rw [List.length_take]; omega
  refine ⟨k, hk, ⟨fun i hi => ⟨a i (by omega), ?_⟩, by rw [hlk]; exact b⟩, h1, h2⟩
  have e : (cat 0 l).take c = cat 0 (l.take k) ++ (cat (sm 0 (l.take k)) (l.drop k)).take (c - (cat 0 (l.take k)).length) := by
    conv => lhs; rw [cat_split 0 l k]
    rw [List.take_append, List.take_of_length_le h1]
  rw [e, at_cat 0 _ (fun x hx => hl x (List.mem_of_mem_take hx)) hi]
end Go.Proofs.YtjblkmjdepdekaaDoor.Wl

/- logs: the plain mathematics of a disk that holds a log; crashes -/
namespace Go.Proofs.YtjblkmjdepdekaaDoor.Wl
open Go.RowKit Go.Lib Go.Joins Go.Proofs.YtjblkmjdepdekaaDoor.By Go.Proofs.YtjblkmjdepdekaaDoor.Dk Go.Proofs.YtjblkmjdepdekaaDoor.Oc Go.Proofs.YtjblkmjdepdekaaDoor.Cr Go.Proofs.YtjblkmjdepdekaaDoor.Fm

theorem tells_ex (b : List UInt8) : ∃ L, Tells b L := by
  have h1 : ∀ N, (∀ i, i < N → (Fm.at' b 0 i).2.2.2 = 0) ∨ ∃ m, (Fm.at' b 0 m).2.2.2 ≠ 0 ∧ ∀ i, i < m → (Fm.at' b 0 i).2.2.2 = 0 := by
    intro N
    induction N with
    | zero => exact .inl fun i hi => by omega
    | succ N ih =>
      rcases ih with h | h
      · by_cases e : (Fm.at' b 0 N).2.2.2 = 0
        · refine .inl fun i hi => ?_
          rcases Nat.lt_or_ge i N with h2 | h2
          · exact h i h2
          · rw [show i = N by omega]; exact e
        · exact .inr ⟨N, e, h⟩
      · exact .inr h
  have h2 : ∀ N, (∀ i, i < N → (Fm.at' b 0 i).2.2.2 = 0) → 6 * N ≤ (stt b 0 N).1 ∧ (stt b 0 N).1 ≤ b.length := by
    intro N
    induction N with
    | zero => exact fun _ => ⟨Nat.zero_le _, Nat.zero_le _⟩
    | succ N ih =>
      intro h
      obtain ⟨a, c⟩ := ih fun i hi => h i (by omega)
      have := nxt_len (h N (by omega))
      rw [List.length_drop] at this
      rw [stt_succ]
      unfold Fm.at'
      simp only
      omega
  rcases h1 (b.length + 1) with h | ⟨m, he, h⟩
  · have := h2 _ h; omega
  · refine ⟨(List.range m).map fun i => (Fm.at' b 0 i).1, fun i hi => ?_, by simpa using he⟩
    have hm : i < m := by simpa using hi
    exact ⟨h i hm, by simp⟩
/-- one disk's bytes: the half hf holds a chain of turn t, so many bytes of it for sure; all other turns are lower -/
structure One (n hf t : Nat) (F : List UInt8) (C : List UInt8) (lo : Nat) : Prop where
  fl : F.length = 64 * n
  prt : Prt (half hf F (n / 2)) (n / 2) t C lo
  trs : ∀ j, j < n → trn (getS F j) ≤ t ∧ ((∀ i, i < n / 2 → j ≠ hf * (n / 2) + i) → trn (getS F j) < t)
/-- what waits goes into that half, each a beginning of a part of the chain -/
def Wts (n hf t : Nat) (W : List Wr) (C : List UInt8) (lo : Nat) : Prop := ∀ x ∈ W, ∃ i l, i < n / 2 ∧ x.1 = hf * (n / 2) + i ∧ x.2 = secB t ((chn C i).take l) ∧ (lo ≤ 55 * i + l ∨ 55 ≤ l)
theorem Wts.okW {n hf t lo : Nat} {W : List Wr} {C : List UInt8} (hf1 : hf ≤ 1) (h : Wts n hf t W C lo) : OkW n W := fun x hx => by
  obtain ⟨i, l, h1, h2, h3, _⟩ := h x hx
  refine ⟨?_, by rw [h3]; exact secB_len (by rw [List.length_take, chn_len]; omega)⟩
  have : hf = 0 ∨ hf = 1 := by omega
  rcases this with rfl | rfl <;> omega
/-- a crash, or whatever keeps some of what waits -/
theorem One.keep {n hf t lo : Nat} {F C : List UInt8} {V : List Wr} (h : One n hf t F C lo) (hf1 : hf ≤ 1) (ht : U64 t) (hw : Wts n hf t V C lo) : One n hf t (ov F V) C lo := by
  have hok := hw.okW hf1
  refine ⟨ov_len V F h.fl hok, fun i hi => ?_, fun j hj => ?_⟩
  · rw [getS_half hf1 hi]
    have hp := h.prt i hi
    rw [getS_half hf1 hi] at hp
    rcases ov_one V F h.fl hok (hf * (n / 2) + i) with e | ⟨x, hx, e1, e2⟩
    · rw [e]; exact hp
    · obtain ⟨i', l, h1, h2, h3, h4⟩ := hw x hx
      obtain rfl : i' = i := by omega
      exact .inr ⟨l, by rw [e2, h3], h4⟩
  · rcases ov_one V F h.fl hok j with e | ⟨x, hx, e1, e2⟩
    · rw [e]; exact h.trs j hj
    · obtain ⟨i', l, h1, h2, h3, h4⟩ := hw x hx
      rw [e2, h3, trn_secB ht]
      exact ⟨Nat.le_refl t, fun h5 => absurd (e1.symm.trans h2) (h5 i' h1)⟩
theorem lat_le {D : List UInt8} {t : Nat} : ∀ m, (∀ j, j < m → trn (getS D j) ≤ t) → lat D m ≤ t
  | 0, _ => Nat.zero_le _
  | m + 1, h => by
    have := lat_le m fun j hj => h j (by omega)
    have := h m (by omega)
    unfold lat; omega
theorem le_lat {D : List UInt8} : ∀ m j, j < m → trn (getS D j) ≤ lat D m
  | 0, j, h => by omega
  | m + 1, j, h => by
    unfold lat
    rcases Nat.lt_or_ge j m with h1 | h1
    · have := le_lat (D := D) m j h1; omega
    · rw [show j = m by omega]; omega
/-- the first sector has the turn: so the latest is it -/
theorem One.lat {n hf t lo : Nat} {F C : List UInt8} (h : One n hf t F C lo) (hn4 : 4 ≤ n) (hf1 : hf ≤ 1) (ht : U64 t) (h0 : 0 < lo) : lat F n = t := by
  refine Nat.le_antisymm (lat_le n fun j hj => (h.trs j hj).1) ?_
  have hm : 0 < n / 2 := by omega
  have hj : hf * (n / 2) + 0 < n := by
    have : hf = 0 ∨ hf = 1 := by omega
    rcases this with rfl | rfl <;> omega
  have h1 := h.prt 0 hm
  rw [getS_half hf1 hm] at h1
  have h2 := le_lat (D := F) n _ hj
  rcases h1 with ⟨_, h3⟩ | ⟨l, h3, _⟩
  · omega
  · rw [h3, trn_secB ht] at h2; exact h2
theorem uf_base : ∀ (base : List Rc), (∀ x ∈ base, x.1 ≠ 255) → base.foldl stp ([], false) = (base, false) := by
  intro base
  have key : ∀ (l a : List Rc), (∀ x ∈ l, x.1 ≠ 255) → l.foldl stp (a, false) = (a ++ l, false) := by
    intro l
    induction l with
    | nil => intro a _; simp
    | cons x r ih =>
      intro a h
      have hx := h x (by simp)
      rw [List.foldl_cons, show stp (a, false) x = (a ++ [x], false) by unfold stp; rw [if_neg (fun e => hx e.2.1)], ih _ (fun y hy => h y (by simp [hy]))]
      simp
  intro h
  rw [key base [] h]; simp
theorem uf_seal (base l : List Rc) (h : ∀ x ∈ base, x.1 ≠ 255) : uf (base ++ (255, []) :: l) = (base ++ l, true) := by
  have key : ∀ (l a : List Rc), l.foldl stp (a, true) = (a ++ l, true) := by
    intro l
    induction l with
    | nil => intro a; simp
    | cons x r ih =>
      intro a
      rw [List.foldl_cons, show stp (a, true) x = (a ++ [x], true) by unfold stp; rw [if_neg (by simp)], ih]
      simp
  unfold uf
  rw [List.foldl_append, uf_base base h, List.foldl_cons, show stp (base, false) (255, []) = (base, true) by unfold stp; rw [if_pos ⟨rfl, rfl, rfl⟩], key]
end Go.Proofs.YtjblkmjdepdekaaDoor.Wl

/- logs: what is read of a disk that holds a log; fresh halves; frames behind a chain -/
namespace Go.Proofs.YtjblkmjdepdekaaDoor.Wl
open Go.RowKit Go.Lib Go.Joins Go.Proofs.YtjblkmjdepdekaaDoor.By Go.Proofs.YtjblkmjdepdekaaDoor.Dk Go.Proofs.YtjblkmjdepdekaaDoor.Oc Go.Proofs.YtjblkmjdepdekaaDoor.Cr Go.Proofs.YtjblkmjdepdekaaDoor.Fm

theorem cat_mono (R : List Rc) {a b : Nat} (h : a ≤ b) : (cat 0 (R.take a)).length ≤ (cat 0 (R.take b)).length := by
  have e := cat_split 0 (R.take b) a
  rw [List.take_take, Nat.min_eq_left h] at e
  rw [e, List.length_append]; omega
/-- what a disk that holds a log tells: what is there for sure, and a beginning of the rest -/
theorem One.cur {n hf t lo : Nat} {F : List UInt8} {base apps : List Rc} (h : One n hf t F (cat 0 (base ++ (255, []) :: apps)) lo) (hn4 : 4 ≤ n) (hf1 : hf ≤ 1) (ht : U64 t) (ht1 : 1 ≤ t)
    (hl : ∀ x ∈ base ++ (255, []) :: apps, x.2.length ≤ 1024) (hb : ∀ x ∈ base, x.1 ≠ 255) (hcl : (cat 0 (base ++ (255, []) :: apps)).length ≤ 55 * (n / 2)) (h1 : (cat 0 (base ++ [(255, [])])).length ≤ lo) (hlo : lo ≤ (cat 0 (base ++ (255, []) :: apps)).length) :
    ∃ k, k ≤ apps.length ∧ Cur F (n / 2) (hf, true, base ++ apps.take k) ∧ ∀ j, j ≤ apps.length → (cat 0 (base ++ (255, []) :: apps.take j)).length ≤ lo → j ≤ k := by
  have hm : 1 ≤ n / 2 := by omega
  have hp0 : 0 < (cat 0 (base ++ [(255, ([] : List UInt8))])).length := by
    rw [cat_app, List.length_append]
    show 0 < _ + (fb _ 255 [] ++ []).length
    rw [List.append_nil, fb_len]; omega
  obtain ⟨htr, c, hc1, hc2⟩ := cnt_part hm ht ht1 (by omega) hlo hcl h.prt
  obtain ⟨R, hR⟩ : ∃ R, R = base ++ (255, ([] : List UInt8)) :: apps := ⟨_, rfl⟩
  have hR1 : ∀ j, R.take (base.length + 1 + j) = base ++ (255, []) :: apps.take j := fun j => by
    rw [hR, List.take_append, List.take_of_length_le (by omega), show base.length + 1 + j - base.length = j + 1 by omega, List.take_succ_cons]
  have hRl : R.length = base.length + 1 + apps.length := by rw [hR]; simp; omega
  rw [← hR] at hl hc2
  obtain ⟨k', hk1, hk2, hk3, hk4⟩ := tells_cut (c := c) hl
  have hkb : base.length + 1 ≤ k' := by
    rcases Nat.lt_or_ge k' (base.length + 1) with hlt | hge
    · have h3 := hk4 (by omega)
      have h4 := cat_mono R (show k' + 1 ≤ base.length + 1 + 0 by omega)
      rw [hR1 0, List.take_zero] at h4
      omega
    · exact hge
  obtain ⟨k, rfl⟩ : ∃ k, k' = base.length + 1 + k := ⟨k' - (base.length + 1), by omega⟩
  have hkl : k ≤ apps.length := by omega
  rw [hR1 k] at hk2
  rw [← hc2] at hk2
  refine ⟨k, hkl, ?_, fun j hj hjlo => ?_⟩
  · have hoth : ∀ b : List UInt8, ∀ j, j < n → (∀ i, i < n / 2 → j ≠ hf * (n / 2) + i) → trn b = trn (getS F j) → trn b < t := fun b j hj hi e => by rw [e]; exact (h.trs j hj).2 hi
    obtain ⟨L', hL'⟩ := tells_ex (cnt (half (1 - hf) F (n / 2)) (n / 2))
    have hto : trn (half (1 - hf) F (n / 2)) < t := by
      have e := trn_first (half (1 - hf) F (n / 2))
      rw [getS_half (by omega) (by omega)] at e
      refine hoth _ _ ?_ ?_ e.symm
      · have : hf = 0 ∨ hf = 1 := by omega
        rcases this with rfl | rfl <;> simp only [Nat.sub_zero, Nat.sub_self, Nat.one_mul, Nat.zero_mul] <;> omega
      · intro i hi
        have : hf = 0 ∨ hf = 1 := by omega
        rcases this with rfl | rfl <;> simp only [Nat.sub_zero, Nat.sub_self, Nat.one_mul, Nat.zero_mul] <;> omega
    have hu := uf_seal base (apps.take k) hb
    have hcase : hf = 0 ∨ hf = 1 := by omega
    rcases hcase with rfl | rfl
    · refine ⟨_, L', hk2, hL', ?_⟩
      rw [show half1 F (n / 2) = half 0 F (n / 2) from rfl, show half2 F (n / 2) = half (1 - 0) F (n / 2) from rfl, hu, htr]
      unfold pick2
      simp only [Bool.not_true, Bool.false_or]
      rw [if_neg (by intro e; simp only [Bool.and_eq_true, decide_eq_true_eq] at e; omega)]
    · refine ⟨L', _, hL', hk2, ?_⟩
      rw [show half1 F (n / 2) = half (1 - 1) F (n / 2) from rfl, show half2 F (n / 2) = half 1 F (n / 2) from rfl, hu, htr]
      unfold pick2
      simp only [Bool.true_and]
      rw [if_pos (by simp [hto])]
  · rcases Nat.lt_or_ge k j with hlt | hge
    · have h3 := hk4 (by omega)
      have h4 := cat_mono R (show base.length + 1 + k + 1 ≤ base.length + 1 + j by omega)
      rw [hR1 j] at h4
      omega
    · exact hge
/-- a sector that all writings of it agree on -/
theorem ov_all {n : Nat} {s : List UInt8} {j : Nat} : ∀ (W : List Wr) (F : List UInt8), F.length = 64 * n → OkW n W → (∀ x ∈ W, x.1 = j → x.2 = s) → (∃ x ∈ W, x.1 = j) → getS (ov F W) j = s
  | [], _, _, _, _, ⟨_, h, _⟩ => by cases h
  | x :: r, F, hF, hw, ha, he => by
    have hx := hw x (by simp)
    have hl := length_setS hF hx.1 hx.2
    show getS (ov (setS F x.1 x.2) r) j = s
    by_cases hr : ∃ y ∈ r, y.1 = j
    · exact ov_all r _ hl (fun y hy => hw y (by simp [hy])) (fun y hy => ha y (by simp [hy])) hr
    · have hr' : ∀ y ∈ r, y.1 ≠ j := fun y hy e => hr ⟨y, hy, e⟩
      rw [ov_get r _ hl (fun y hy => hw y (by simp [hy])) j hr']
      obtain ⟨y, hy, e⟩ := he
      rcases List.mem_cons.1 hy with rfl | hy
      · subst e
        rw [getS_same hF hx.1 hx.2]; exact ha y (by simp) rfl
      · exact absurd e (hr' y hy)
theorem ov_app (F : List UInt8) (W V : List Wr) : ov F (W ++ V) = ov (ov F W) V := by unfold ov; rw [List.foldl_append]
theorem mem_wrs {t a : Nat} {row : List UInt8} {x : Wr} : x ∈ wrs t a row ↔ ∃ i, 55 * i < row.length ∧ x = (a + i, secB t (chn row i)) := by
  unfold wrs
  simp only [List.mem_map, List.mem_range]
  constructor
  · rintro ⟨i, hi, rfl⟩; exact ⟨i, by omega, rfl⟩
  · rintro ⟨i, hi, rfl⟩; exact ⟨i, by omega, rfl⟩
/-- a half that is written anew, in a turn behind all -/
theorem One.fresh {n T hf : Nat} {D C : List UInt8} (hD : D.length = 64 * n) (hT : ∀ j, j < n → trn (getS D j) ≤ T) (hf1 : hf ≤ 1) (ht : U64 (T + 1)) (hC : C.length ≤ 55 * (n / 2)) :
    One n hf (T + 1) (ov D (wrs (T + 1) (hf * (n / 2)) C)) C C.length := by
  have hw : Wts n hf (T + 1) (wrs (T + 1) (hf * (n / 2)) C) C C.length := fun x hx => by
    obtain ⟨i, hi, rfl⟩ := mem_wrs.1 hx
    exact ⟨i, 55, by omega, rfl, by rw [List.take_of_length_le (by rw [chn_len]; omega)], .inr (Nat.le_refl _)⟩
  have hok := hw.okW hf1
  refine ⟨ov_len _ D hD hok, fun i hi => ?_, fun j hj => ?_⟩
  · rw [getS_half hf1 hi]
    by_cases h55 : 55 * i < C.length
    · refine .inr ⟨55, ?_, .inr (Nat.le_refl _)⟩
      rw [List.take_of_length_le (by rw [chn_len]; omega)]
      refine ov_all _ D hD hok (fun x hx e => ?_) ⟨_, mem_wrs.2 ⟨i, h55, rfl⟩, rfl⟩
      obtain ⟨i', _, rfl⟩ := mem_wrs.1 hx
      simp only at e
      obtain rfl : i' = i := by omega
      rfl
    · refine .inl ⟨?_, by omega⟩
      rw [ov_get _ D hD hok _ (fun x hx e => by
        obtain ⟨i', h', rfl⟩ := mem_wrs.1 hx
        simp only at e
        omega)]
      have hj : hf * (n / 2) + i < n := by
        have : hf = 0 ∨ hf = 1 := by omega
        rcases this with rfl | rfl <;> omega
      have := hT _ hj
      omega
  · rcases ov_one _ D hD hok j with e | ⟨x, hx, e1, e2⟩
    · rw [e]; have := hT j hj; exact ⟨by omega, fun _ => by omega⟩
    · obtain ⟨i, l, h1, h2, h3, _⟩ := hw x hx
      rw [e2, h3, trn_secB ht]
      exact ⟨Nat.le_refl _, fun h5 => absurd (e1.symm.trans h2) (h5 i h1)⟩
end Go.Proofs.YtjblkmjdepdekaaDoor.Wl

/- logs: the plain mathematics of frames behind a chain -/
namespace Go.Proofs.YtjblkmjdepdekaaDoor.Wl
open Go.RowKit Go.Lib Go.Joins Go.Proofs.YtjblkmjdepdekaaDoor.By Go.Proofs.YtjblkmjdepdekaaDoor.Dk Go.Proofs.YtjblkmjdepdekaaDoor.Oc Go.Proofs.YtjblkmjdepdekaaDoor.Cr Go.Proofs.YtjblkmjdepdekaaDoor.Fm

theorem chn_app (C fr : List UInt8) (i : Nat) : chn C i = (chn (C ++ fr) i).take (chn C i).length := by
  rcases Nat.lt_or_ge (55 * i) C.length with h | h
  · have e : (C ++ fr).drop (55 * i) = C.drop (55 * i) ++ fr := List.drop_append_of_le_length (by omega)
    have hl := chn_len (row := C) (i := i)
    rw [hl]
    unfold chn
    rw [e, List.take_take, List.take_append]
    have hd : (C.drop (55 * i)).length = C.length - 55 * i := List.length_drop ..
    rw [show min (min 55 (C.length - 55 * i)) 55 - (C.drop (55 * i)).length = 0 by omega, List.take_zero, List.append_nil]
    exact List.take_eq_take_iff.2 (by omega)
  · have hl : (chn C i).length = 0 := by rw [chn_len]; omega
    rw [hl, List.take_zero]
    exact List.length_eq_zero_iff.1 hl
theorem part_app {C fr : List UInt8} {i l lo : Nat} (hlo : lo ≤ C.length) (h : lo ≤ 55 * i + l ∨ 55 ≤ l) : ∃ l', (chn C i).take l = (chn (C ++ fr) i).take l' ∧ (lo ≤ 55 * i + l' ∨ 55 ≤ l') := by
  refine ⟨min l (chn C i).length, ?_, ?_⟩
  · conv => lhs; rw [chn_app C fr i]
    rw [List.take_take]
  · rw [chn_len]; omega
theorem One.app {n hf t lo : Nat} {F C : List UInt8} (fr : List UInt8) (h : One n hf t F C lo) (hlo : lo ≤ C.length) : One n hf t F (C ++ fr) lo := by
  refine ⟨h.fl, fun i hi => ?_, h.trs⟩
  rcases h.prt i hi with h1 | ⟨l, h1, h2⟩
  · exact .inl h1
  · obtain ⟨l', e, h3⟩ := part_app (fr := fr) hlo h2
    exact .inr ⟨l', by rw [h1, e], h3⟩
theorem Wts.app {n hf t lo : Nat} {W : List Wr} {C : List UInt8} (fr : List UInt8) (h : Wts n hf t W C lo) (hlo : lo ≤ C.length) : Wts n hf t W (C ++ fr) lo := fun x hx => by
  obtain ⟨i, l, h1, h2, h3, h4⟩ := h x hx
  obtain ⟨l', e, h5⟩ := part_app (fr := fr) hlo h4
  exact ⟨i, l', h1, h2, by rw [h3, e], h5⟩
theorem chn_row (C fr : List UInt8) (i : Nat) : chn (C.drop (C.length - C.length % 55) ++ fr) i = chn (C ++ fr) (C.length / 55 + i) := by
  have e : (C ++ fr).drop (55 * (C.length / 55)) = C.drop (C.length - C.length % 55) ++ fr := by
    rw [List.drop_append_of_le_length (by omega), show 55 * (C.length / 55) = C.length - C.length % 55 by omega]
  unfold chn
  rw [← e, List.drop_drop, show 55 * (C.length / 55) + 55 * i = 55 * (C.length / 55 + i) by omega]
theorem row_len (C fr : List UInt8) : (C.drop (C.length - C.length % 55) ++ fr).length = C.length % 55 + fr.length := by
  rw [List.length_append, List.length_drop]; omega
/-- what an append writes -/
theorem Wts.wrs {n hf t lo : Nat} {C fr : List UInt8} (hcl : (C ++ fr).length ≤ 55 * (n / 2)) : Wts n hf t (wrs t (hf * (n / 2) + C.length / 55) (C.drop (C.length - C.length % 55) ++ fr)) (C ++ fr) lo := fun x hx => by
  obtain ⟨i, hi, rfl⟩ := mem_wrs.1 hx
  rw [row_len] at hi
  rw [List.length_append] at hcl
  exact ⟨C.length / 55 + i, 55, by omega, by simp only; omega, by rw [List.take_of_length_le (by rw [chn_len]; omega)]; exact congrArg (secB t) (chn_row C fr i), .inr (Nat.le_refl _)⟩
theorem Wts.both {n hf t lo : Nat} {W V : List Wr} {C : List UInt8} (h : Wts n hf t W C lo) (k : Wts n hf t V C lo) : Wts n hf t (W ++ V) C lo := fun x hx => by
  rcases List.mem_append.1 hx with hx | hx
  · exact h x hx
  · exact k x hx
/-- all that was written, ahead and now -/
theorem One.now {n hf t : Nat} {G C : List UInt8} (fr : List UInt8) (h : One n hf t G C C.length) (hf1 : hf ≤ 1) (ht : U64 t) (hcl : (C ++ fr).length ≤ 55 * (n / 2)) :
    One n hf t (ov G (wrs t (hf * (n / 2) + C.length / 55) (C.drop (C.length - C.length % 55) ++ fr))) (C ++ fr) (C ++ fr).length := by
  have hw := Wts.wrs (n := n) (hf := hf) (t := t) (lo := C.length) hcl
  have hok := hw.okW hf1
  have hk := (h.app fr (Nat.le_refl _)).keep hf1 ht hw
  refine ⟨hk.fl, fun i hi => ?_, hk.trs⟩
  rw [List.length_append] at hcl ⊢
  by_cases hlt : i < C.length / 55
  · rcases hk.prt i hi with ⟨_, h1⟩ | ⟨l, h1, h2⟩
    · omega
    · exact .inr ⟨l, h1, by omega⟩
  · by_cases h55 : 55 * i < C.length + fr.length
    · refine .inr ⟨55, ?_, .inr (Nat.le_refl _)⟩
      rw [List.take_of_length_le (by rw [chn_len]; omega), getS_half hf1 hi]
      obtain ⟨i', rfl⟩ : ∃ i', i = C.length / 55 + i' := ⟨i - C.length / 55, by omega⟩
      refine ov_all _ G h.fl hok (fun x hx e => ?_) ⟨_, mem_wrs.2 ⟨i', by rw [row_len]; omega, rfl⟩, by simp only; omega⟩
      obtain ⟨j, _, rfl⟩ := mem_wrs.1 hx
      simp only at e
      obtain rfl : j = i' := by omega
      exact congrArg (secB t) (chn_row C fr j)
    · rcases hk.prt i hi with ⟨h1, _⟩ | ⟨l, h1, h2⟩
      · exact .inl ⟨h1, by omega⟩
      · refine .inr ⟨l, h1, .inl (by omega)⟩
end Go.Proofs.YtjblkmjdepdekaaDoor.Wl

/- logs: Append of what is too long -/
namespace Go.Proofs.YtjblkmjdepdekaaDoor.Wl
open Go.RowKit Go.Lib Go.Joins Go.Proofs.YtjblkmjdepdekaaDoor.By Go.Proofs.YtjblkmjdepdekaaDoor.Dk Go.Proofs.YtjblkmjdepdekaaDoor.Oc Go.Proofs.YtjblkmjdepdekaaDoor.Rg Go.Proofs.YtjblkmjdepdekaaDoor.Ht Go.Proofs.YtjblkmjdepdekaaDoor.Cr Go.Proofs.YtjblkmjdepdekaaDoor.Fm
attribute [local go_sem] Oper.semAt_some

set_option maxRecDepth 20000 in
set_option maxHeartbeats 8000000 in
theorem append_long {w : World} {bl bd hf t z s : Nat} {last : List UInt8} {B gs cs gn cn n : Nat} {vw : Value} {F : List UInt8} {W : List Wr} (h : IsLg w bl bd hf t z s last) (hd : IsDk w B bd gs cs gn cn vw n F (ov F W) W false)
    (k : UInt8) (a : Option Addr) (c : Nat) (d : List UInt8) (hib : IsB w a d.length c d) (hk : k ≠ 255) (hdl : 1024 < d.length) (hn : Nibs w) :
    Calls Tryd.prog 11 #[.pointer (some ⟨bl, 0, none⟩), .agg #[.int .u8 (k.toNat : Nat), .slice a d.length c]] w fun e w' => e = .returned (.int .i64 15) ∧ Below w.heap.size w w' := by
  obtain ⟨w1, hw1⟩ : ∃ w1, w1 = w.alloc (.cells #[.int .u8 (k.toNat : Nat), .slice a d.length c] 34) := ⟨_, rfl⟩
  have hb1 : Below w.heap.size w w1 := by rw [hw1]; exact (Below.refl _ _).alloc (Nat.le_refl _) _
  have x1 : w1.heap[w.heap.size]? = some (.cells #[.int .u8 (k.toNat : Nat), .slice a d.length c] 34 (0, 0)) := by rw [hw1]; exact heap_alloc_new w _
  have hse := seals_any k (.slice a d.length c) w1
  rw [show decide (k = 255) = false by simp [hk]] at hse
  have c1 := (two_cells x1)
  rw [hw1] at c1
  have HSE := Lib.hid hse
  have H := Lib.hid (And.intro h (And.intro hd (And.intro hib (And.intro hn (And.intro hw1 (And.intro hb1 x1))))))
  have hmix : Tryd.prog.follows .mixedOrders = true := by kernel_rfl
  clear hw1 hb1 x1 hse h hd hib hn hk
  go_enter Tryd.func11, Tryd.ntmps11
  go_wp2_with fail
  rw [← H.out.2.2.2.2.1]
  refine HSE.out.mono ?_
  rintro e W1 ⟨rfl, hb2⟩
  have hbw := H.out.2.2.2.2.2.1.trans (hb2.mono H.out.2.2.2.2.2.1.size)
  have x2 := heap_old hb2 H.out.2.2.2.2.2.2
  have l2 := H.out.1.old hbw
  have HB := Lib.hid (And.intro hbw (And.intro x2 l2))
  clear c1 hb2 hbw x2 HSE
  go_wp2_with fail
  refine begin' 13 (fun Y => Y.heap[w.heap.size]? = some (.cells #[.int .u8 (k.toNat : Nat), .slice a d.length c] 34 (0, 0)) ∧ IsLg Y bl bd hf t z s last) hmix (show _ ∧ IsLg W1.drew bl bd hf t z s last from ⟨HB.out.2.1, l2.same rfl⟩) (fun hS0 => ?_)
  refine Ht.takeN (i := 0) ⟨some 15, _, _, _, _, _⟩ (.pointer (some ⟨bl, 0, none⟩)) rfl (Nat.le_refl 13) (by kernel_rfl) (by kernel_rfl) (by kernel_rfl) (by kernel_rfl) hS0 (Or.inl ⟨by rfl, by (intro X hX; go_simp)⟩) ?_
  simp only [Act.put, List.setIfInBounds_toArray, List.set_cons_zero, List.set_cons_succ]
  refine Ht.takeN (i := 1) ⟨some 16, _, _, _, _, _⟩ (.pointer (some ⟨bl, 0, none⟩)) rfl (Nat.le_refl 13) (by kernel_rfl) (by kernel_rfl) (by kernel_rfl) (by kernel_rfl) hS0 (Or.inl ⟨by rfl, by (intro X hX; go_simp)⟩) ?_
  simp only [Act.put, List.setIfInBounds_toArray, List.set_cons_zero, List.set_cons_succ]
  refine Ht.takeN (i := 2) ⟨some 17, _, _, _, _, _⟩ (.pointer (some ⟨bl, 4, none⟩)) rfl (Nat.le_refl 13) (by kernel_rfl) (by kernel_rfl) (by kernel_rfl) (by kernel_rfl) hS0 (Or.inl ⟨by rfl, by (intro X hX; go_simp)⟩) ?_
  simp only [Act.put, List.setIfInBounds_toArray, List.set_cons_zero, List.set_cons_succ]
  refine Ht.takeN (i := 3) ⟨some 18, _, _, _, _, _⟩ (.int .u32 (s : Nat)) rfl (Nat.le_refl 13) (by kernel_rfl) (by kernel_rfl) (by kernel_rfl) (by kernel_rfl) hS0 (Or.inl ⟨by rfl, by (intro X hX; have := hX.2.cells.2.2.2.2; go_simp)⟩) ?_
  simp only [Act.put, List.setIfInBounds_toArray, List.set_cons_zero, List.set_cons_succ]
  refine Ht.takeN (i := 4) ⟨some 19, _, _, _, _, _⟩ (.agg #[.int .u8 (k.toNat : Nat), .slice a d.length c]) rfl (Nat.le_refl 13) (by kernel_rfl) (by kernel_rfl) (by kernel_rfl) (by kernel_rfl) hS0 (Or.inl ⟨by rfl, by (intro X hX; have := two_cells hX.1; go_simp)⟩) ?_
  simp only [Act.put, List.setIfInBounds_toArray, List.set_cons_zero, List.set_cons_succ]
  have hW1 : Below w.heap.size w W1.drew := HB.out.1.drew
  refine Ht.step (i := 5) ⟨some 20, _, _, _, _, _⟩ rfl (by kernel_rfl) (by rfl) (fun K hK => ?_)
  refine Ht.enter 32 #[.int .u32 (s : Nat), .agg #[.int .u8 (k.toNat : Nat), .slice a d.length c]] (by have hen := fun args w => enters_of (P := Tryd.prog) Tryd.func32 (by kernel_rfl) rfl args w; go_simp) (frBytes_long s k a d.length c _ hdl) ?_
  rintro e W2 ⟨rfl, hb2⟩
  have hS2 : W2.heap[w.heap.size]? = some (.cells #[.int .u8 (k.toNat : Nat), .slice a d.length c] 34 (0, 0)) ∧ IsLg W2 bl bd hf t z s last := ⟨heap_old hb2 hS0.1, hS0.2.old hb2⟩
  refine ⟨_, rfl, hK _ _ (fun _ => hS2) (fun _ => ?_)⟩
  clear hK K
  simp only [Act.put, List.setIfInBounds_toArray, List.set_cons_zero, List.set_cons_succ]
  have hbw2 : Below w.heap.size w W2 := hW1.trans (hb2.mono hW1.size)
  have H2 := Lib.hid hbw2
  clear hb2 hbw2 hS0 hW1
  refine Ht.takeN (i := 6) ⟨some 14, _, _, _, _, _⟩ (.tuple #[.slice none 0 0, .int .u32 0, .int .i64 15]) rfl (Nat.le_refl 13) (by kernel_rfl) (by kernel_rfl) (by kernel_rfl) (by kernel_rfl) hS2 (Or.inl ⟨by rfl, by (intro X hX; go_simp)⟩) ?_
  simp only [Act.put, List.setIfInBounds_toArray, List.set_cons_zero, List.set_cons_succ]
  refine Ht.takeN (i := 7) ⟨some 21, _, _, _, _, _⟩ (.slice none 0 0) rfl (Nat.le_refl 13) (by kernel_rfl) (by kernel_rfl) (by kernel_rfl) (by kernel_rfl) hS2 (Or.inl ⟨by rfl, by (intro X hX; go_simp)⟩) ?_
  simp only [Act.put, List.setIfInBounds_toArray, List.set_cons_zero, List.set_cons_succ]
  refine Ht.takeN (i := 8) ⟨some 22, _, _, _, _, _⟩ (.int .u32 0) rfl (Nat.le_refl 13) (by kernel_rfl) (by kernel_rfl) (by kernel_rfl) (by kernel_rfl) hS2 (Or.inl ⟨by rfl, by (intro X hX; go_simp)⟩) ?_
  simp only [Act.put, List.setIfInBounds_toArray, List.set_cons_zero, List.set_cons_succ]
  refine Ht.takeN (i := 9) ⟨some 23, _, _, _, _, _⟩ (.int .i64 15) rfl (Nat.le_refl 13) (by kernel_rfl) (by kernel_rfl) (by kernel_rfl) (by kernel_rfl) hS2 (Or.inl ⟨by rfl, by (intro X hX; go_simp)⟩) ?_
  simp only [Act.put, List.setIfInBounds_toArray, List.set_cons_zero, List.set_cons_succ]
  refine Ht.takeN (i := 10) ⟨some 5, _, _, _, _, _⟩ (.slice none 0 0) rfl (Nat.le_refl 13) (by kernel_rfl) (by kernel_rfl) (by kernel_rfl) (by kernel_rfl) hS2 (Or.inl ⟨by rfl, by (intro X hX; go_simp)⟩) ?_
  simp only [Act.put, List.setIfInBounds_toArray, List.set_cons_zero, List.set_cons_succ]
  refine Ht.takeN (i := 11) ⟨some 6, _, _, _, _, _⟩ (.int .u32 0) rfl (Nat.le_refl 13) (by kernel_rfl) (by kernel_rfl) (by kernel_rfl) (by kernel_rfl) hS2 (Or.inl ⟨by rfl, by (intro X hX; go_simp)⟩) ?_
  simp only [Act.put, List.setIfInBounds_toArray, List.set_cons_zero, List.set_cons_succ]
  refine Ht.takeN (i := 12) ⟨some 7, _, _, _, _, _⟩ (.int .i64 15) rfl (Nat.le_refl 13) (by kernel_rfl) (by kernel_rfl) (by kernel_rfl) (by kernel_rfl) hS2 (Or.inl ⟨by rfl, by (intro X hX; go_simp)⟩) ?_
  simp only [Act.put, List.setIfInBounds_toArray, List.set_cons_zero, List.set_cons_succ]
  refine done (by kernel_rfl) ?_
  go_wp2_with fail
  go_ret
  exact ⟨rfl, H2.out⟩
end Go.Proofs.YtjblkmjdepdekaaDoor.Wl

/- logs: a log on its disk, whole; Append, Sync, Room over it -/
namespace Go.Proofs.YtjblkmjdepdekaaDoor.Wl
open Go.RowKit Go.Lib Go.Joins Go.Proofs.YtjblkmjdepdekaaDoor.By Go.Proofs.YtjblkmjdepdekaaDoor.Dk Go.Proofs.YtjblkmjdepdekaaDoor.Oc Go.Proofs.YtjblkmjdepdekaaDoor.Cr Go.Proofs.YtjblkmjdepdekaaDoor.Fm

def chR (base apps : List Rc) : List Rc := base ++ (255, []) :: apps
/-- the plain part: of a turn, a base, and what was appended; so many bytes are synced -/
structure Pln (n hf t : Nat) (base apps : List Rc) (lo : Nat) : Prop where
  n4 : 4 ≤ n
  hf1 : hf ≤ 1
  t1 : 1 ≤ t
  t2 : t < 9223372036854775808
  rl : ∀ x ∈ chR base apps, x.2.length ≤ 1024
  bk : ∀ x ∈ base, x.1 ≠ 255
  ak : ∀ x ∈ apps, x.1 ≠ 255
  cl : (cat 0 (chR base apps)).length ≤ 55 * (n / 2)
  l1 : (cat 0 (base ++ [(255, [])])).length ≤ lo
  l2 : lo ≤ (cat 0 (chR base apps)).length
/-- a log on its disk -/
structure Lgx (w : World) (B bl bd gs cs gn cn : Nat) (vw : Value) (n hf t : Nat) (F : List UInt8) (W : List Wr) (base apps : List Rc) (lo : Nat) (last : List UInt8) : Prop where
  dk : IsDk w B bd gs cs gn cn vw n F (ov F W) W false
  lg : IsLg w bl bd hf t (cat 0 (chR base apps)).length (sm 0 (chR base apps)) last
  la : last.take ((cat 0 (chR base apps)).length % 55) = (cat 0 (chR base apps)).drop ((cat 0 (chR base apps)).length - (cat 0 (chR base apps)).length % 55)
  pl : Pln n hf t base apps lo
  o1 : One n hf t F (cat 0 (chR base apps)) lo
  wt : Wts n hf t W (cat 0 (chR base apps)) lo
  o2 : One n hf t (ov F W) (cat 0 (chR base apps)) (cat 0 (chR base apps)).length
theorem chR_app (base apps : List Rc) (x : Rc) : cat 0 (chR base (apps ++ [x])) = cat 0 (chR base apps) ++ fb (sm 0 (chR base apps)) x.1 x.2 ∧ sm 0 (chR base (apps ++ [x])) = fs (sm 0 (chR base apps)) x.1 x.2 := by
  have e : chR base (apps ++ [x]) = chR base apps ++ [x] := by unfold chR; simp
  rw [e, cat_app, sm_app]
  exact ⟨by simp [cat], rfl⟩
section
variable {w : World} {B bl bd gs cs gn cn : Nat} {vw : Value} {n hf t : Nat} {F : List UInt8} {W : List Wr} {base apps : List Rc} {lo : Nat} {last : List UInt8}
theorem Lgx.u64 (h : Lgx w B bl bd gs cs gn cn vw n hf t F W base apps lo last) : U64 t := h.lg.ut
/-- Append, of what is no seal and not too long -/
theorem append_x (h : Lgx w B bl bd gs cs gn cn vw n hf t F W base apps lo last) (k : UInt8) (a : Option Addr) (c : Nat) (d : List UInt8) (hib : IsB w a d.length c d) (hk : k ≠ 255) (hdl : d.length ≤ 1024) (hW : W.length ≤ 900000) (hn : Nibs w) :
    Calls Tryd.prog 11 #[.pointer (some ⟨bl, 0, none⟩), .agg #[.int .u8 (k.toNat : Nat), .slice a d.length c]] w fun e w' =>
      (55 * (n / 2) - (cat 0 (chR base apps)).length < (fb (sm 0 (chR base apps)) k d).length ∧ e = .returned (.int .i64 6) ∧ Below w.heap.size w w') ∨
      ((fb (sm 0 (chR base apps)) k d).length ≤ 55 * (n / 2) - (cat 0 (chR base apps)).length ∧ e = .returned (.int .i64 0) ∧ ∃ vw' W' last', Lgx w' B bl bd gs cs gn cn vw' n hf t F W' base (apps ++ [(k, d)]) lo last' ∧ W'.length ≤ W.length + 2100 ∧ (vw'.ownBlock = vw.ownBlock ∨ ∃ g, vw'.ownBlock = some g ∧ w.heap.size ≤ g) ∧ Fr (fun k => Foot bd gs gn vw k ∨ k = bl) w w') := by
  refine (append_log h.lg h.dk h.pl.n4 h.pl.cl k a c d hib hk hdl hW hn).mono ?_
  rintro e w' (h1 | ⟨h1, rfl, vw', last', h2, h3, h4, h5, h6⟩)
  · exact .inl h1
  · obtain ⟨e1, e2⟩ := chR_app base apps (k, d)
    simp only at e1 e2
    have hcl := h.pl.cl
    have hn2 := h.dk.n2
    rw [h.la] at h2 h4
    have hlen : (cat 0 (chR base (apps ++ [(k, d)]))).length = (cat 0 (chR base apps)).length + (fb (sm 0 (chR base apps)) k d).length := by rw [e1, List.length_append]
    have hcl2 : (cat 0 (chR base apps) ++ fb (sm 0 (chR base apps)) k d).length ≤ 55 * (n / 2) := by rw [List.length_append]; omega
    refine .inr ⟨h1, rfl, vw', _, last', ⟨h2, ?_, ?_, ?_, ?_, ?_, ?_⟩, ?_, h5, h6⟩
    · rw [hlen, e2]; exact h3
    · rw [hlen, h4, e1, row_len]
      have e3 : (cat 0 (chR base apps) ++ fb (sm 0 (chR base apps)) k d).drop (55 * ((cat 0 (chR base apps)).length / 55)) = (cat 0 (chR base apps)).drop ((cat 0 (chR base apps)).length - (cat 0 (chR base apps)).length % 55) ++ fb (sm 0 (chR base apps)) k d := by
        rw [List.drop_append_of_le_length (by omega), show 55 * ((cat 0 (chR base apps)).length / 55) = (cat 0 (chR base apps)).length - (cat 0 (chR base apps)).length % 55 by omega]
      rw [← e3, List.drop_drop]
      congr 1
      omega
    · refine ⟨h.pl.n4, h.pl.hf1, h.pl.t1, h.pl.t2, fun x hx => ?_, h.pl.bk, fun x hx => ?_, by rw [hlen]; omega, h.pl.l1, by rw [hlen]; have := h.pl.l2; omega⟩
      have : x ∈ chR base apps ∨ x = (k, d) := by
        unfold chR at hx ⊢
        simp only [List.mem_append, List.mem_cons, List.not_mem_nil, or_false] at hx ⊢
        rcases hx with h | h | h | h
        · exact .inl (.inl h)
        · exact .inl (.inr (.inl h))
        · exact .inl (.inr (.inr h))
        · exact .inr h
      rcases this with h2 | rfl
      · exact h.pl.rl x h2
      · exact hdl
      rcases List.mem_append.1 hx with h2 | h2
      · exact h.pl.ak x h2
      · rw [List.mem_singleton.1 h2]; exact hk
    · rw [e1]; exact h.o1.app _ h.pl.l2
    · rw [e1]; exact (h.wt.app _ h.pl.l2).both (Wts.wrs hcl2)
    · rw [e1, ov_app]; exact h.o2.now _ h.pl.hf1 h.u64 hcl2
    · rw [List.length_append, wrs_len, row_len]
      omega
/-- Sync -/
theorem sync_x (h : Lgx w B bl bd gs cs gn cn vw n hf t F W base apps lo last) (hW : W.length ≤ 1000000) : Calls Tryd.prog 12 #[.pointer (some ⟨bl, 0, none⟩)] w fun e w' =>
    e = .returned (.int .i64 0) ∧ Lgx w' B bl bd gs cs gn cn (.slice none 0 0) n hf t (ov F W) [] base apps (cat 0 (chR base apps)).length last ∧ Fr (Foot bd gs gn vw) w w' := by
  refine (wsync_any h.lg h.dk hW).mono ?_
  rintro e w' ⟨rfl, h1, h2⟩
  rw [sync_ov h.o1.fl h.dk.okW] at h1
  exact ⟨rfl, ⟨h1, h.lg.fr h.dk h2, h.la, ⟨h.pl.n4, h.pl.hf1, h.pl.t1, h.pl.t2, h.pl.rl, h.pl.bk, h.pl.ak, h.pl.cl, Nat.le_trans h.pl.l1 h.pl.l2, Nat.le_refl _⟩, h.o2, (fun x hx => by cases hx), h.o2⟩, h2⟩
end
end Go.Proofs.YtjblkmjdepdekaaDoor.Wl

/- logs: Rewrite, Format, Open over a log on its disk -/
namespace Go.Proofs.YtjblkmjdepdekaaDoor.Wl
open Go.RowKit Go.Lib Go.Joins Go.Proofs.YtjblkmjdepdekaaDoor.By Go.Proofs.YtjblkmjdepdekaaDoor.Dk Go.Proofs.YtjblkmjdepdekaaDoor.Oc Go.Proofs.YtjblkmjdepdekaaDoor.Cr Go.Proofs.YtjblkmjdepdekaaDoor.Fm

theorem catR_chR (L : List Rv) : catR (L ++ [sealR]) = cat 0 (chR (L.map rc) []) ∧ smR (L ++ [sealR]) = sm 0 (chR (L.map rc) []) := by
  unfold catR smR chR
  rw [List.map_append]
  exact ⟨rfl, rfl⟩
theorem cat_len (s : Nat) : ∀ l : List Rc, (cat s l).length = (l.map fun x => (Fm.hd x.1 x.2).length + 4).sum
  | [] => rfl
  | (k, d) :: r => by
    show (fb s k d ++ cat (fs s k d) r).length = _
    rw [List.length_append, fb_len, cat_len _ r, List.map_cons, List.sum_cons]
theorem sum_take (f : Rc → Nat) : ∀ (l : List Rc) (k : Nat), ((l.take k).map f).sum ≤ (l.map f).sum
  | [], k => by simp
  | x :: r, 0 => by simp
  | x :: r, k + 1 => by have := sum_take f r k; simp only [List.take_succ_cons, List.map_cons, List.sum_cons]; omega
theorem len_cat (s : Nat) : ∀ l : List Rc, l.length ≤ (cat s l).length
  | [] => Nat.le_refl _
  | (k, d) :: r => by
    have := len_cat (fs s k d) r
    show r.length + 1 ≤ (fb s k d ++ cat (fs s k d) r).length
    rw [List.length_append, fb_len]; omega
/-- what is told, with the seal behind it, is no longer than the chain was -/
theorem cat_told (base apps : List Rc) (k : Nat) : (cat 0 (chR (base ++ apps.take k) [])).length ≤ (cat 0 (chR base apps)).length := by
  rw [cat_len, cat_len]
  have := sum_take (fun x => (Fm.hd x.1 x.2).length + 4) apps k
  unfold chR
  simp only [List.map_append, List.map_cons, List.map_nil, List.sum_append, List.sum_cons, List.sum_nil]
  omega
theorem U64.of {t : Nat} (h : t < 9223372036854775808) : U64 t := by unfold U64; omega
/-- a half that was just written, as a log on its disk -/
theorem Lgx.fresh {w : World} {B bl bd gs cs gn cn n hf T : Nat} {F : List UInt8} {W : List Wr} {L : List Rv} {last : List UInt8} (hn4 : 4 ≤ n) (hF : F.length = 64 * n) (hw : OkW n W) (hT : ∀ j, j < n → trn (getS (ov F W) j) ≤ T) (hf1 : hf ≤ 1) (ht : T + 1 < 9223372036854775808)
    (hr : ∀ x ∈ L.map rc, x.2.length ≤ 1024) (hk : ∀ x ∈ L.map rc, x.1 ≠ 255) (hd : IsDk w B bd gs cs gn cn (.slice none 0 0) n (ov F (W ++ wrs (T + 1) (hf * (n / 2)) (catR (L ++ [sealR])))) (ov F (W ++ wrs (T + 1) (hf * (n / 2)) (catR (L ++ [sealR])))) [] false)
    (hl : IsLg w bl bd hf (T + 1) (catR (L ++ [sealR])).length (smR (L ++ [sealR])) last) (hla : last.take ((catR (L ++ [sealR])).length % 55) = (catR (L ++ [sealR])).drop ((catR (L ++ [sealR])).length - (catR (L ++ [sealR])).length % 55)) (hC : (catR (L ++ [sealR])).length ≤ 55 * (n / 2)) :
    Lgx w B bl bd gs cs gn cn (.slice none 0 0) n hf (T + 1) (ov F (W ++ wrs (T + 1) (hf * (n / 2)) (catR (L ++ [sealR])))) [] (L.map rc) [] (cat 0 (chR (L.map rc) [])).length last := by
  obtain ⟨e1, e2⟩ := catR_chR L
  have ho : One n hf (T + 1) (ov F (W ++ wrs (T + 1) (hf * (n / 2)) (catR (L ++ [sealR])))) (catR (L ++ [sealR])) (catR (L ++ [sealR])).length := by
    rw [ov_app]; exact One.fresh (ov_len W F hF hw) hT hf1 (U64.of ht) hC
  rw [e1] at ho hd hl hla hC ⊢
  rw [e2] at hl
  refine ⟨hd, hl, hla, ⟨hn4, hf1, by omega, ht, fun x hx => ?_, hk, (fun x hx => by cases hx), hC, Nat.le_refl _, Nat.le_refl _⟩, ho, (fun x hx => by cases hx), ho⟩
  unfold chR at hx
  rcases List.mem_append.1 hx with h | h
  · exact hr x h
  · rw [List.mem_singleton.1 h]; simp
section
variable {w : World} {B bl bd gs cs gn cn : Nat} {vw : Value} {n hf t : Nat} {F : List UInt8} {W : List Wr} {base apps : List Rc} {lo : Nat} {last : List UInt8}
theorem dk_fl {G : List UInt8} {dn : Bool} (h : IsDk w B bd gs cs gn cn vw n F G W dn) : F.length = 64 * n := by
  have := h.os.1; simp only [byteCells, List.length_map] at this; omega
/-- Rewrite, of records of which none is of the seal's kind -/
theorem rewrite_x (h : Lgx w B bl bd gs cs gn cn vw n hf t F W base apps lo last) (ht : t + 1 < 9223372036854775808) (a : Option Addr) (cap : Nat) (L : List Rv) (hL : InRs w a L) (ha : a = none → L = [] ∧ cap = 0) (hcap : L.length ≤ cap ∧ cap ≤ 9223372036854775807)
    (hdl : ∀ x ∈ L, x.d.length ≤ 1024) (hl : L.length ≤ 290000) (hW : W.length ≤ 900000) (hn : Nibs w) (hk : ∀ x ∈ L, x.k ≠ 255) :
    Calls Tryd.prog 14 #[.pointer (some ⟨bl, 0, none⟩), .slice a L.length cap] w fun e w' =>
      (55 * (n / 2) < (cat 0 (chR (L.map rc) [])).length ∧ e = .returned (.int .i64 6) ∧ Below w.heap.size w w') ∨
      (e = .returned (.int .i64 0) ∧ ∃ F' last', Lgx w' B bl bd gs cs gn cn (.slice none 0 0) n (1 - hf) (t + 1) F' [] (L.map rc) [] (cat 0 (chR (L.map rc) [])).length last' ∧ Fr (fun k => Foot bd gs gn vw k ∨ k = bl) w w') := by
  refine (Rewrite_log h.lg h.dk h.pl.n4 (by omega) a cap L hL ha hcap hdl hl hW hn hk).mono ?_
  rintro e w' (⟨h1, rfl, h2⟩ | ⟨h1, rfl, last', h2, h3, h4, h5⟩)
  · rw [(catR_chR L).1] at h1
    exact .inl ⟨h1, rfl, h2⟩
  · exact .inr ⟨rfl, _, last', Lgx.fresh h.pl.n4 h.o1.fl h.dk.okW (fun j hj => (h.o2.trs j hj).1) (by omega) ht (fun x hx => by
      obtain ⟨y, hy, rfl⟩ := List.mem_map.1 hx
      exact hdl y hy) (fun x hx => by
      obtain ⟨y, hy, rfl⟩ := List.mem_map.1 hx
      exact hk y hy) h2 h3 h4 h1, h5⟩
/-- Format -/
theorem format_x (hd : IsDk w B bd gs cs gn cn vw n F (ov F W) W false) (hn4 : 4 ≤ n) (ht : lat (ov F W) n + 1 < 9223372036854775808) (hW : W.length ≤ 900000) (hn : Nibs w) :
    Calls Tryd.prog 10 #[.pointer (some ⟨bd, 0, none⟩)] w fun e w' => ∃ bl F' last', w.heap.size ≤ bl ∧ e = .returned (.tuple #[.pointer (some ⟨bl, 0, none⟩), .int .i64 0]) ∧
      Lgx w' B bl bd gs cs gn cn (.slice none 0 0) n 0 (lat (ov F W) n + 1) F' [] [] [] (cat 0 (chR [] [])).length last' ∧ Fr (Foot bd gs gn vw) w w' := by
  refine (format_ok hd hn4 (by omega) hW hn).mono ?_
  rintro e w' ⟨bl, h1, rfl, h2, ⟨last', h3, h4, h5⟩, h6⟩
  exact ⟨bl, _, last', h1, rfl, Lgx.fresh (L := []) hn4 (dk_fl hd) hd.okW (fun j hj => le_lat n j hj) (by omega) ht (fun x hx => by cases hx) (fun x hx => by cases hx) h2 h3 h4 h5, h6⟩
/-- Open -/
theorem open_x (hd : IsDk w B bd gs cs gn cn vw n F (ov F W) W false) (hp : Pln n hf t base apps lo) (ho : One n hf t (ov F W) (cat 0 (chR base apps)) lo) (ht : t + 1 < 9223372036854775808) (hW : W.length ≤ 900000) (hn : Nibs w) :
    Calls Tryd.prog 19 #[.pointer (some ⟨bd, 0, none⟩)] w fun e w' => ∃ k, k ≤ apps.length ∧ (∀ j, j ≤ apps.length → (cat 0 (chR base (apps.take j))).length ≤ lo → j ≤ k) ∧ ∃ (rv : List Rv) (bl : Nat) (v : Value) (F' last' : List UInt8), rv.map rc = base ++ apps.take k ∧ w.heap.size ≤ bl ∧
      e = .returned (.tuple #[.pointer (some ⟨bl, 0, none⟩), v, .int .i64 0]) ∧ IsRs w.heap.size w' v rv ∧ Lgx w' B bl bd gs cs gn cn (.slice none 0 0) n (1 - hf) (t + 1) F' [] (base ++ apps.take k) [] (cat 0 (chR (base ++ apps.take k) [])).length last' ∧ Fr (Foot bd gs gn vw) w w' := by
  have hut := U64.of hp.t2
  have hn2 := hd.n2
  have hl0 : 0 < lo := by
    have := hp.l1
    rw [cat_app, List.length_append] at this
    have h2 : 0 < (cat (sm 0 base) [(255, ([] : List UInt8))]).length := Nat.lt_of_lt_of_le (by decide) (len_cat _ _)
    omega
  obtain ⟨k, hk, hc, hj⟩ := One.cur (base := base) (apps := apps) ho hp.n4 hp.hf1 hut hp.t1 hp.rl hp.bk hp.cl hp.l1 hp.l2
  have hlat := ho.lat hp.n4 hp.hf1 hut hl0
  have hmem : ∀ x ∈ base ++ apps.take k, x.2.length ≤ 1024 ∧ x.1 ≠ 255 := fun x hx => by
    rcases List.mem_append.1 hx with h | h
    · exact ⟨hp.rl x (by unfold chR; simp [h]), hp.bk x h⟩
    · have h2 := List.mem_of_mem_take h
      exact ⟨hp.rl x (by unfold chR; simp [h2]), hp.ak x h2⟩
  have htl := cat_told base apps k
  have hcl := hp.cl
  have hln : (base ++ apps.take k).length ≤ 290000 := by
    have h1 := len_cat 0 (chR (base ++ apps.take k) [])
    have h2 : (chR (base ++ apps.take k) []).length = (base ++ apps.take k).length + 1 := by unfold chR; rw [List.length_append, List.length_singleton]
    omega
  refine (open_ok hd hp.n4 hc (fun r hr => (hmem r hr).1) hln (by rw [hlat]; omega) hW hn).mono ?_
  rintro e w' ⟨rv, hrv, ⟨h1, rfl, h2⟩ | ⟨bl, v, h1, rfl, h2, h3, ⟨last', h4, h5, h6⟩, h7⟩⟩
  · rw [(catR_chR rv).1, hrv] at h1
    omega
  · rw [hlat] at h3 h4
    have hx := Lgx.fresh (L := rv) hp.n4 (dk_fl hd) hd.okW (fun j hj => (ho.trs j hj).1) (by omega) ht (fun x hx => (hmem x (by rw [← hrv]; exact hx)).1) (fun x hx => (hmem x (by rw [← hrv]; exact hx)).2) h3 h4 h5 h6
    rw [hrv] at hx
    exact ⟨k, hk, hj, rv, bl, v, _, last', hrv, h1, rfl, h2, hx, h7⟩
end
end Go.Proofs.YtjblkmjdepdekaaDoor.Wl

/- logs: the chapter's example -/
namespace Go.Proofs.YtjblkmjdepdekaaDoor.Wl
open Go.RowKit Go.Lib Go.Joins Go.Proofs.YtjblkmjdepdekaaDoor.By Go.Proofs.YtjblkmjdepdekaaDoor.Dk Go.Proofs.YtjblkmjdepdekaaDoor.Oc Go.Proofs.YtjblkmjdepdekaaDoor.Cr Go.Proofs.YtjblkmjdepdekaaDoor.Fm
attribute [local go_sem] Oper.semAt_some

theorem getS_zero (k i : Nat) : getS (List.replicate k (0 : UInt8)) i = List.replicate (min 64 (k - 64 * i)) 0 := by
  unfold getS; rw [List.drop_replicate, List.take_replicate]
theorem unl_zero : ∀ k, unl (List.replicate k (0 : UInt8)) = 0
  | 0 => rfl
  | k + 1 => by rw [List.replicate_succ, unl, unl_zero k]; rfl
theorem trn_zero (k i : Nat) : trn (getS (List.replicate k (0 : UInt8)) i) = 0 := by
  unfold trn; rw [getS_zero, List.take_replicate, unl_zero]
theorem lat_zero (k : Nat) (m : Nat) : lat (List.replicate k (0 : UInt8)) m = 0 := Nat.le_antisymm (lat_le m fun j _ => by rw [trn_zero]; exact Nat.le_refl 0) (Nat.zero_le _)
theorem str_of {w : World} {a : Option Addr} {len cap : Nat} {l : List UInt8} (h : IsB w a len cap l) : (convert 32 9 (.slice a len cap)).run Tryd.prog w = .ok (.string ⟨l.toArray⟩) w := by
  obtain ⟨rfl, ⟨rfl, h0, rfl⟩ | ⟨x, rfl, _, _, hcs⟩⟩ := h
  · obtain rfl : l = [] := List.length_eq_zero_iff.1 h0
    exact run_convert_nil_bytes w 32 9 5 0 Tryd.underlying32 Tryd.underlying5 Tryd.underlying9
  · exact run_convert_bytes_back w 32 9 5 x cap l Tryd.underlying32 Tryd.underlying5 Tryd.underlying9 (fun j hj => hcs j _ (by simp [byteCells, hj]))
theorem Lgx.old {w w' : World} {B bl bd gs cs gn cn : Nat} {vw : Value} {n hf t : Nat} {F : List UInt8} {W : List Wr} {base apps : List Rc} {lo : Nat} {last : List UInt8} (h : Lgx w B bl bd gs cs gn cn vw n hf t F W base apps lo last) (hb : Below w.heap.size w w') : Lgx w' B bl bd gs cs gn cn vw n hf t F W base apps lo last :=
  ⟨h.dk.old hb, h.lg.old hb, h.la, h.pl, h.o1, h.wt, h.o2⟩
theorem Lgx.ge {w : World} {B bl bd gs cs gn cn : Nat} {vw : Value} {n hf t : Nat} {F : List UInt8} {W : List Wr} {base apps : List Rc} {lo : Nat} {last : List UInt8} (h : Lgx w B bl bd gs cs gn cn vw n hf t F W base apps lo last) (hbl : B ≤ bl) : ∀ k, (Foot bd gs gn vw k ∨ k = bl) → B ≤ k := by
  rintro k (h2 | rfl)
  · exact h.dk.foot_ge k h2
  · exact hbl
theorem Fr.below' {p : Nat → Prop} {w0 a b : World} (h : Below w0.heap.size w0 a) (hf : Fr p a b) (hp : ∀ k, p k → w0.heap.size ≤ k) : Below w0.heap.size w0 b := h.trans (hf.below h.size hp)
set_option maxRecDepth 20000 in
set_option maxHeartbeats 8000000 in
theorem lives05_any (w : World) (hn : Nibs w) : Calls Tryd.prog 8 #[] w fun e w' => e = .returned (.bool true) ∧ Below w.heap.size w w' := by
  have kc := fun (w : World) (C : Array Value) (n c : Nat) => Lib.run_convert_bytes_const (P := Tryd.prog) w 32 5 C n c Tryd.underlying32 Tryd.underlying5
  have HN := Lib.hid hn
  clear hn
  go_enter Tryd.func8, Tryd.ntmps8
  go_wp2_with fail
  refine (new_any 16 w (by decide)).mono ?_
  rintro e w1 ⟨bd, gs, gn, rfl, hd1, hb1⟩
  have HD1 := Lib.hid (And.intro hd1 hb1)
  clear hd1 hb1
  go_wp2_with fail
  refine (format_x (F := List.replicate (64 * 16) 0) (W := []) HD1.out.1 (by decide) (by show lat (List.replicate (64 * 16) 0) 16 + 1 < _; rw [lat_zero]; decide) (by decide) (HN.out.old HD1.out.2)).mono ?_
  rintro e w2 ⟨bl, F2, last2, hbl, rfl, hx2, hf2⟩
  rw [show ov (List.replicate (64 * 16) 0) [] = List.replicate (64 * 16) 0 from rfl, lat_zero] at hx2
  have hb2 : Below w.heap.size w w2 := Fr.below' HD1.out.2 hf2 (HD1.out.1.foot_ge)
  have hblw : w.heap.size ≤ bl := Nat.le_trans HD1.out.2.size hbl
  have HD2 := Lib.hid (And.intro hx2 (And.intro hb2 hblw))
  clear hx2 hb2 hf2 hbl hblw
  go_wp2_with fail
  obtain ⟨w3, hw3⟩ : ∃ X, X = w2.alloc (.cells #[.int .u8 97] 5 (1, 2)) := ⟨_, rfl⟩
  have hb3 : Below w2.heap.size w2 w3 := by rw [hw3]; exact (Below.refl _ _).alloc (Nat.le_refl _) _
  have hi3 : IsB w3 (some ⟨w2.heap.size, 0, none⟩) 1 1 [97] := by rw [hw3]; exact isB_one w2 97 (1, 2)
  rw [← hw3]
  refine (append_x (HD2.out.1.old hb3) 1 _ 1 [97] hi3 (by decide) (by decide) (by decide) ((HN.out.old HD2.out.2.1).old hb3)).mono ?_
  rintro e w4 (⟨h4, _⟩ | ⟨_, rfl, v4, W4, last4, hx4, hw4, hv4, hf4⟩)
  · exact absurd h4 (by rw [cat_len, fb_len]; decide +kernel)
  have hb4 : Below w.heap.size w w4 := Fr.below' (HD2.out.2.1.trans (hb3.mono HD2.out.2.1.size)) hf4 ((HD2.out.1.old hb3).ge HD2.out.2.2)
  have HD4 := Lib.hid (And.intro hx4 (And.intro hb4 hw4))
  clear hw3 hb3 hi3 hx4 hw4 hv4 hf4 hb4
  go_wp2_with fail
  refine (sync_x HD4.out.1 (by have := HD4.out.2.2; simp only [List.length_nil] at this; omega)).mono ?_
  rintro e w5 ⟨rfl, hx5, hf5⟩
  have hb5 : Below w.heap.size w w5 := Fr.below' HD4.out.2.1 hf5 (HD4.out.1.dk.foot_ge)
  obtain ⟨F5, hF5⟩ : ∃ F, F = ov F2 W4 := ⟨_, rfl⟩
  rw [← hF5] at hx5
  have HD5 := Lib.hid (And.intro hx5 hb5)
  clear hF5 hx5 hf5 hb5
  go_wp2_with fail
  obtain ⟨w6, hw6⟩ : ∃ X, X = w5.alloc (.cells #[.int .u8 98] 5 (1, 2)) := ⟨_, rfl⟩
  have hb6 : Below w5.heap.size w5 w6 := by rw [hw6]; exact (Below.refl _ _).alloc (Nat.le_refl _) _
  have hi6 : IsB w6 (some ⟨w5.heap.size, 0, none⟩) 1 1 [98] := by rw [hw6]; exact isB_one w5 98 (1, 2)
  rw [← hw6]
  refine (append_x (HD5.out.1.old hb6) 2 _ 1 [98] hi6 (by decide) (by decide) (by decide) ((HN.out.old HD5.out.2).old hb6)).mono ?_
  rintro e w7 (⟨h7, _⟩ | ⟨_, rfl, v7, W7, last7, hx7, hw7, hv7, hf7⟩)
  · exact absurd h7 (by rw [cat_len, fb_len]; decide +kernel)
  have hb7 : Below w.heap.size w w7 := Fr.below' (HD5.out.2.trans (hb6.mono HD5.out.2.size)) hf7 ((HD5.out.1.old hb6).ge HD2.out.2.2)
  have HD7 := Lib.hid (And.intro hx7 (And.intro hb7 hw7))
  clear hw6 hb6 hi6 hx7 hw7 hv7 hf7 hb7
  go_wp2_with fail
  refine (crash_any HD7.out.1.dk asks_nil (fun _ _ => trivial) (by have := HD7.out.2.2; simp only [List.length_nil] at this; omega)).mono ?_
  rintro e w8 ⟨rfl, hd8, hf8⟩
  rw [cF_none, sync_back HD7.out.1.o1.fl HD7.out.1.dk.okW] at hd8
  have HD8 := Lib.hid (And.intro hd8 (Fr.below' HD7.out.2.1 hf8 (HD7.out.1.dk.foot_ge)))
  clear hd8 hf8
  go_wp2_with fail
  refine (up_any HD8.out.1).mono ?_
  rintro e w9 ⟨rfl, hd9, hf9, _⟩
  have HD9 := Lib.hid (And.intro hd9 (Fr.below' HD8.out.2 hf9 (HD8.out.1.foot_ge)))
  clear hd9 hf9
  go_wp2_with fail
  refine (open_x (W := []) HD9.out.1 HD5.out.1.pl HD5.out.1.o1 (by decide) (by decide) (HN.out.old HD9.out.2)).mono ?_
  rintro e w10 ⟨k, hk, hj, rv, bl2, v, F10, last10, hrv, hbl2, rfl, hrs, hx10, hf10⟩
  obtain rfl : k = 1 := Nat.le_antisymm hk (hj 1 (Nat.le_refl 1) (Nat.le_refl _))
  obtain ⟨x, rfl⟩ : ∃ x, rv = [x] := by
    have := congrArg List.length hrv
    rw [List.length_map] at this
    exact List.length_eq_one_iff.1 this
  obtain ⟨xk, xa, xc, xd⟩ := x
  have hx2 : xk = 1 ∧ xd = [97] := by simpa [rc] using hrv
  obtain ⟨rfl, rfl⟩ := hx2
  obtain ⟨a2, c2, rfl, ha2, hc2⟩ := hrs.shape
  obtain ⟨g, o, rfl, hin⟩ : ∃ g o, a2 = some ⟨g, o, none⟩ ∧ RecIn w10 g o 0 ⟨1, xa, xc, [97]⟩ := by
    rcases hrs.inRs with h | ⟨g, o, e, h⟩
    · cases h
    · exact ⟨g, o, e, h 0 Nat.zero_lt_one⟩
  obtain ⟨c0, c1, hib⟩ := hin
  have hcv := str_of hib
  have hb10 : Below w.heap.size w w10 := Fr.below' HD9.out.2 hf10 (HD9.out.1.foot_ge)
  have HB := Lib.hid hb10
  simp only [Nat.zero_mul, Nat.add_zero, List.length_cons, List.length_nil, Nat.zero_add] at c0 c1 hcv hc2 ⊢
  clear hk hj hrv hbl2 hrs hx10 hf10 hb10 hib ha2
  have e1 : (0 : Int) ≤ 0 := Int.le_refl 0
  go_wp2_with fail
  go_ret
  exact ⟨rfl, HB.out⟩
end Go.Proofs.YtjblkmjdepdekaaDoor.Wl

/- logs: the walk of WalNone -/
namespace Go.Proofs.YtjblkmjdepdekaaDoor.Wl
open Go.RowKit Go.Lib Go.Joins Go.Proofs.YtjblkmjdepdekaaDoor.By Go.Proofs.YtjblkmjdepdekaaDoor.Dk Go.Proofs.YtjblkmjdepdekaaDoor.Oc Go.Proofs.YtjblkmjdepdekaaDoor.Cr Go.Proofs.YtjblkmjdepdekaaDoor.Fm
attribute [local go_sem] Oper.semAt_some

theorem new_zero (w : World) : Calls Tryd.prog 9 #[.int .i64 0] w fun e w' => e = .returned (.tuple #[.pointer none, .int .i64 1]) ∧ w = w' := by
  go_enter Tryd.func9, Tryd.ntmps9
  go_wp2_with fail
  go_ret2
  exact ⟨rfl, rfl⟩
theorem open_nil (w : World) : Calls Tryd.prog 19 #[.pointer none] w fun e w' => e = .returned (.tuple #[.pointer none, .slice none 0 0, .int .i64 1]) ∧ w = w' := by
  have h := whole_nil w
  go_enter Tryd.func19, Tryd.ntmps19
  go_wp2_with (go_at_call 28; (with_reducible refine h.mono ?_); rintro e w' ⟨rfl, rfl⟩)
  go_ret3
  exact ⟨rfl, rfl⟩
theorem tells_nil : Tells [] [] := ⟨fun i hi => (Nat.not_lt_zero i hi).elim, nxt_nil _⟩
theorem cnt_zero (k m : Nat) : cnt (List.replicate k 0) m = [] := by
  unfold cnt
  rw [if_pos]
  unfold trn; rw [List.take_replicate, unl_zero]
theorem cur_zero (k m : Nat) : Cur (List.replicate k 0) m (0, false, []) := by
  refine ⟨[], [], ?_, ?_, by rfl⟩
  · unfold half1; rw [List.take_replicate, cnt_zero]; exact tells_nil
  · unfold half2; rw [List.take_replicate, List.drop_replicate, cnt_zero]; exact tells_nil
end Go.Proofs.YtjblkmjdepdekaaDoor.Wl

/- a slice of structs that came in, cell by cell (of no program) -/
namespace Go.Proofs.YtjblkmjdepdekaaDoor.Op
open Go.ChangeShapes Go.WideShapes Go.Deep
section
variable {H : Type} {enc : TypeId × Value → H} {P : Program} {w : World} {base : Nat} {spare : Nat → Bool} {held : Bool}

theorem add_none (b o j : Nat) : (⟨b, o, none⟩ : Addr).add j = ⟨b, o + j, none⟩ := by unfold Addr.add; split <;> simp_all

theorem slice_fields {t e : TypeId} {fs : Array Field} {fuel : Nat} {a : Option Addr} {len cap : Nat} {x : DataW H × List MemPlace} (ht : P.underlying t = some (.slice e)) (he : P.underlying e = some (.struct fs))
    (hone : oneCellFields P fs = true) (hC : P.cellsOf e = fs.size) (hpos : 0 < fs.size) (h : DataW.trod enc P w base spare held fuel t [.slice a len cap] = some x) :
    len ≤ cap ∧ cap ≤ maxLen ∧ (len = 0 ∨ ∃ b o, a = some ⟨b, o, none⟩ ∧ ∀ i, i < len → ∀ (j : Nat) (f : Field), fs[j]? = some f →
      ∃ (v : Value) (n : Nat) (y : DataW H × List MemPlace), w.cell? ⟨b, o + (i * fs.size + j), none⟩ = some v ∧ DataW.trod enc P w base spare held n f.type [v] = some y) := by
  rcases open_slice ht h with ⟨h0, _⟩ | ⟨ad, l', c', m, n, D, Pl, hcs, _, hl, hc, hm, _, hi⟩
  · simp only [List.cons.injEq, Value.slice.injEq, and_true] at h0
    obtain ⟨rfl, rfl, rfl⟩ := h0
    exact ⟨Nat.le_refl _, Nat.zero_le _, .inl rfl⟩
  · simp only [List.cons.injEq, Value.slice.injEq, and_true] at hcs
    obtain ⟨rfl, rfl, rfl⟩ := hcs
    refine ⟨hl, hc, ?_⟩
    have hlm : len ≤ m := by rw [hm]; split <;> omega
    -- one element's cells
    have elem : ∀ i, i < len → ∀ (j : Nat) (f : Field), fs[j]? = some f →
        ∃ (v : Value) (k : Nat) (y : DataW H × List MemPlace), w.cell? (ad.add (i * fs.size + j)) = some v ∧ DataW.trod enc P w base spare held k f.type [v] = some y := by
      intro i hi' j f hj
      obtain ⟨cs', h1, h2⟩ := hi i (by omega)
      rw [hC] at h1
      obtain ⟨xs, k, _, _, hlen, hxl, hf⟩ := DataW.trod_struct he h2
      obtain ⟨_, hcl, hat⟩ := World.cells?_some h1
      obtain ⟨ho, hk⟩ := hone_of hone j f hj
      have hjl : j < fs.size := (Array.getElem?_eq_some_iff.1 hj).1
      have hg := hf j f hj
      rw [ho, hk, List.drop_eq_getElem_cons (by omega), List.take_succ_cons, List.take_zero, List.getElem?_eq_getElem (by omega)] at hg
      refine ⟨cs'[j]'(by omega), k, _, ?_, hg⟩
      rw [← add_add, hat j hjl, List.getElem?_eq_getElem (by omega)]
    by_cases h0 : len = 0
    · exact .inl h0
    · right
      obtain ⟨f0, hf0⟩ : ∃ f, fs[0]? = some f := ⟨_, Array.getElem?_eq_getElem hpos⟩
      obtain ⟨v, k, y, hv, _⟩ := elem 0 (by omega) 0 f0 hf0
      obtain ⟨b, o, spot⟩ := ad
      have hsp : spot = none := by simpa [Addr.add] using World.cell?_spot hv
      subst hsp
      refine ⟨b, o, rfl, fun i hi' j f hj => ?_⟩
      have := elem i hi' j f hj
      rwa [add_none] at this
end
end Go.Proofs.YtjblkmjdepdekaaDoor.Op

/- arguments that came in, opened: numbers, bytes, records -/
namespace Go.Proofs.YtjblkmjdepdekaaDoor.Par
set_option maxRecDepth 20000
open Go.ChangeShapes Go.WideShapes Go.ChangeAt Go.RowKit Go.Proofs.YtjblkmjdepdekaaDoor.By
section
variable {H : Type} {enc : TypeId × Value → H} {W : World}

theorem int_nat {k : IntKind} {n : Int} {b : Nat} (hw : (Lit.int k n).wf = true) (h0 : k.min = 0) (hb : k.max = b) : ∃ m : Nat, n = m ∧ m ≤ b := by
  have h : k.min ≤ n ∧ n ≤ k.max := by simpa [Lit.wf] using hw
  exact ⟨n.toNat, by omega, by omega⟩
theorem u8_cell {base fuel : Nat} {cs : List Value} {x : DataW H × List MemPlace} (h : DataW.trod enc Tryd.prog W base (fun _ => true) true fuel 5 cs = some x) : ∃ m : UInt8, cs = [.int .u8 (m.toNat : Nat)] := by
  obtain ⟨n, e, _, hw⟩ := DataW.trod_int Tryd.underlying5 h
  obtain ⟨m, rfl, hm⟩ := int_nat (b := 255) hw rfl rfl
  refine ⟨UInt8.ofNat m, ?_⟩
  rw [UInt8.toNat_ofNat', Nat.mod_eq_of_lt (by omega)]
  exact e
theorem open_u8 {r : Reach} {b0 base : Nat} {v : Value} {d : DataW H} {p : List MemPlace} (hv : Value.okWide Tryd.prog W r b0 5 v) (h : DataW.Trod enc Tryd.prog W base (fun _ => true) true 5 v d p) : ∃ m : UInt8, v = .int .u8 (m.toNat : Nat) := by
  obtain ⟨n, rfl⟩ := okWide_int Tryd.underlying5 hv
  obtain ⟨fuel, hf⟩ := h
  simpa [Value.cells] using u8_cell hf
theorem u32_cell {base fuel : Nat} {cs : List Value} {x : DataW H × List MemPlace} (h : DataW.trod enc Tryd.prog W base (fun _ => true) true fuel 68 cs = some x) : ∃ m : Nat, cs = [.int .u32 (m : Nat)] ∧ Cr.U32 m := by
  obtain ⟨n, e, _, hw⟩ := DataW.trod_int Tryd.underlying68 h
  obtain ⟨m, rfl, hm⟩ := int_nat (b := 4294967295) hw rfl rfl
  exact ⟨m, e, by unfold Cr.U32; omega⟩
theorem open_u32 {r : Reach} {b0 base : Nat} {v : Value} {d : DataW H} {p : List MemPlace} (hv : Value.okWide Tryd.prog W r b0 68 v) (h : DataW.Trod enc Tryd.prog W base (fun _ => true) true 68 v d p) : ∃ m : Nat, v = .int .u32 (m : Nat) ∧ Cr.U32 m := by
  obtain ⟨n, rfl⟩ := okWide_int Tryd.underlying68 hv
  obtain ⟨fuel, hf⟩ := h
  simpa [Value.cells] using u32_cell hf
theorem bytes_cell {base fuel : Nat} {cs : List Value} {x : DataW H × List MemPlace} (h : DataW.trod enc Tryd.prog W base (fun _ => true) true fuel 32 cs = some x) : ∃ a len cap l, cs = [.slice a len cap] ∧ IsB W a len cap l := by
  rcases open_ints Tryd.underlying32 Tryd.underlying5 (by kernel_rfl) h with ⟨hcs, _⟩ | ⟨x, l, c, zs, hcs, _, hl, hm, hz, _, hcell, hwz⟩
  · exact ⟨none, 0, 0, [], hcs, rfl, .inl ⟨rfl, rfl, rfl⟩⟩
  · obtain ⟨l', h'⟩ := isB_row (w := W) (a := some x) (len := l) (cap := c) (zs := zs) (.inr ⟨x, rfl, hl, hm, by simpa using hz, hcell, hwz⟩)
    exact ⟨some x, l, c, l', hcs, h'⟩
theorem open_bytes {r : Reach} {b0 base : Nat} {v : Value} {d : DataW H} {p : List MemPlace} (hv : Value.okWide Tryd.prog W r b0 32 v) (h : DataW.Trod enc Tryd.prog W base (fun _ => true) true 32 v d p) : ∃ a len cap l, v = .slice a len cap ∧ IsB W a len cap l := by
  obtain ⟨a, len, cap, rfl⟩ := okWide_slice Tryd.underlying32 hv
  obtain ⟨fuel, hf⟩ := h
  obtain ⟨a', len', cap', l, e, hib⟩ := bytes_cell hf
  have e' : Value.slice a len cap = .slice a' len' cap' := by simpa [Value.cells] using e
  exact ⟨a', len', cap', l, e', hib⟩
theorem oneRec : Go.Deep.oneCellFields Tryd.prog #[⟨ "Kind", 5, 0, false, "", "", 0⟩, ⟨ "Data", 32, 1, false, "", "", 8⟩] = true := by kernel_rfl
theorem open_rec {r : Reach} {b0 base : Nat} {v : Value} {d : DataW H} {p : List MemPlace} (hv : Value.okWide Tryd.prog W r b0 34 v) (h : DataW.Trod enc Tryd.prog W base (fun _ => true) true 34 v d p) :
    ∃ (k : UInt8) (a : Option Addr) (len cap : Nat) (l : List UInt8), v = .agg #[.int .u8 (k.toNat : Nat), .slice a len cap] ∧ IsB W a len cap l := by
  obtain ⟨v0, v1, y0, y1, n, rfl, _, _, t0, t1⟩ := Joins.open_agg2 Tryd.underlying34 oneRec (by kernel_rfl) hv h
  obtain ⟨a, len, cap, l, e, hib⟩ := bytes_cell t1
  obtain ⟨m, e0⟩ := u8_cell t0
  simp only [List.cons.injEq, and_true] at e e0
  subst e e0
  exact ⟨m, a, len, cap, l, rfl, hib⟩
end
end Go.Proofs.YtjblkmjdepdekaaDoor.Par

/- records that came in, opened -/
namespace Go.Proofs.YtjblkmjdepdekaaDoor.Par
set_option maxRecDepth 20000
open Go.ChangeShapes Go.WideShapes Go.ChangeAt Go.RowKit Go.Proofs.YtjblkmjdepdekaaDoor.By
instance : Inhabited Wl.Rv := ⟨⟨0, none, 0, []⟩⟩
section
variable {H : Type} {enc : TypeId × Value → H} {W : World}
theorem wf_u8 (m : UInt8) : (Lit.int .u8 (m.toNat : Nat)).wf = true := by
  have := m.toNat_lt
  have h : IntKind.u8.min ≤ ((m.toNat : Nat) : Int) ∧ ((m.toNat : Nat) : Int) ≤ IntKind.u8.max := ⟨by show (0 : Int) ≤ _; omega, by show _ ≤ (255 : Int); omega⟩
  simpa [Lit.wf] using h
theorem u64_cell {base fuel : Nat} {cs : List Value} {x : DataW H × List MemPlace} (h : DataW.trod enc Tryd.prog W base (fun _ => true) true fuel 35 cs = some x) : ∃ m : Nat, cs = [.int .u64 (m : Nat)] ∧ m ≤ 18446744073709551615 := by
  obtain ⟨n, e, _, hw⟩ := DataW.trod_int Tryd.underlying35 h
  have h : IntKind.u64.min ≤ n ∧ n ≤ IntKind.u64.max := by simpa [Lit.wf] using hw
  have h0 : 0 ≤ n := h.1
  have h1 : n ≤ 18446744073709551615 := h.2
  exact ⟨n.toNat, by rw [show (((n.toNat : Nat)) : Int) = n by omega]; exact e, by omega⟩
theorem open_u64 {r : Reach} {b0 base : Nat} {v : Value} {d : DataW H} {p : List MemPlace} (hv : Value.okWide Tryd.prog W r b0 35 v) (h : DataW.Trod enc Tryd.prog W base (fun _ => true) true 35 v d p) : ∃ m : Nat, v = .int .u64 (m : Nat) ∧ m ≤ 18446744073709551615 := by
  obtain ⟨n, rfl⟩ := okWide_int Tryd.underlying35 hv
  obtain ⟨fuel, hf⟩ := h
  simpa [Value.cells] using u64_cell hf
theorem open_rvs {r : Reach} {b0 base : Nat} {v : Value} {d : DataW H} {p : List MemPlace} (hv : Value.okWide Tryd.prog W r b0 31 v) (h : DataW.Trod enc Tryd.prog W base (fun _ => true) true 31 v d p) :
    ∃ a len cap, ∃ L : List Wl.Rv, v = .slice a len cap ∧ L.length = len ∧ ((a = none → L = [] ∧ cap = 0) ∧ len ≤ cap ∧ cap ≤ 9223372036854775807) ∧ Wl.InRs W a L := by
  obtain ⟨a, len, cap, rfl⟩ := okWide_slice Tryd.underlying31 hv
  obtain ⟨fuel, hf⟩ := h
  simp only [Value.cells] at hf
  have hnil : a = none → cap = 0 := fun ha => by
    rcases Go.Deep.open_slice Tryd.underlying31 hf with ⟨h0, _⟩ | ⟨ad, l', c', m, n, D, Pl, hcs, _⟩
    · simp only [List.cons.injEq, Value.slice.injEq, and_true] at h0
      exact h0.2.2
    · simp only [List.cons.injEq, Value.slice.injEq, and_true] at hcs
      rw [ha] at hcs
      cases hcs.1
  obtain ⟨hl, hm, h⟩ := Op.slice_fields Tryd.underlying31 Tryd.underlying34 oneRec (by kernel_rfl) (by decide) hf
  have hm' : cap ≤ 9223372036854775807 := by unfold maxLen at hm; omega
  rcases h with h0 | ⟨b, o, rfl, h⟩
  · exact ⟨a, len, cap, [], rfl, h0.symm, ⟨fun ha => ⟨rfl, hnil ha⟩, hl, hm'⟩, .inl rfl⟩
  · have key : ∀ i, i < len → ∃ x : Wl.Rv, Wl.RecIn W b o i x := by
      intro i hi
      obtain ⟨v0, n0, y0, c0, t0⟩ := h i hi 0 _ rfl
      obtain ⟨v1, n1, y1, c1, t1⟩ := h i hi 1 _ rfl
      obtain ⟨m, e0⟩ := u8_cell t0
      obtain ⟨a', len', cap', l, e, hib⟩ := bytes_cell t1
      simp only [List.cons.injEq, and_true] at e0 e
      subst e0 e
      obtain rfl : l.length = len' := hib.1
      exact ⟨⟨m, a', cap', l⟩, c0, c1, hib⟩
    obtain ⟨f, hf2⟩ := Go.Deep.choose_lt key
    refine ⟨_, len, cap, (List.range len).map f, rfl, by simp, ⟨fun ha => (by cases ha), hl, hm'⟩, .inr ⟨b, o, rfl, ?_⟩⟩
    intro i hi
    simp only [List.length_map, List.length_range] at hi
    simp only [List.getElem_map, List.getElem_range]
    exact hf2 i hi
end
end Go.Proofs.YtjblkmjdepdekaaDoor.Par

/- logs: same, begins, alike (the laws' own functions), where the answer is yes -/
namespace Go.Proofs.YtjblkmjdepdekaaDoor.Wl
open Go.RowKit Go.Lib Go.Joins Go.Proofs.YtjblkmjdepdekaaDoor.By Go.Proofs.YtjblkmjdepdekaaDoor.Dk Go.Proofs.YtjblkmjdepdekaaDoor.Oc Go.Proofs.YtjblkmjdepdekaaDoor.Ht Go.Proofs.YtjblkmjdepdekaaDoor.Cr Go.Proofs.YtjblkmjdepdekaaDoor.Fm
attribute [local go_sem] Oper.semAt_some

set_option maxHeartbeats 1000000 in
theorem same_yes (k : UInt8) (a1 : Option Addr) (n c1 : Nat) (a2 : Option Addr) (m c2 : Nat) (d : List UInt8) (w : World) (h1 : IsB w a1 n c1 d) (h2 : IsB w a2 m c2 d) :
    Calls Tryd.prog 41 #[.agg #[.int .u8 (k.toNat : Nat), .slice a1 n c1], .agg #[.int .u8 (k.toNat : Nat), .slice a2 m c2]] w fun e w' => e = .returned (.bool true) ∧ Below w.heap.size w w' := by
  have hb : ∀ o1 o2, Below w.heap.size w ((w.alloc o1).alloc o2) := fun o1 o2 => ((Below.refl _ _).alloc (Nat.le_refl _) _).alloc (by simp) _
  have e1 : ∀ o1 o2, (convert 32 9 (.slice a1 n c1)).run Tryd.prog ((w.alloc o1).alloc o2) = .ok (.string ⟨d.toArray⟩) ((w.alloc o1).alloc o2) := fun o1 o2 => str_of (h1.old (hb o1 o2))
  have e2 : ∀ o1 o2, (convert 32 9 (.slice a2 m c2)).run Tryd.prog ((w.alloc o1).alloc o2) = .ok (.string ⟨d.toArray⟩) ((w.alloc o1).alloc o2) := fun o1 o2 => str_of (h2.old (hb o1 o2))
  go_enter Tryd.func41, Tryd.ntmps41
  go_wp2
  go_ret
  exact ⟨rfl, hb _ _⟩
theorem same_rc (x y : Rv) (h : rc x = rc y) (w : World) (h1 : IsB w x.a x.d.length x.c x.d) (h2 : IsB w y.a y.d.length y.c y.d) :
    Calls Tryd.prog 41 #[.agg #[.int .u8 (x.k.toNat : Nat), .slice x.a x.d.length x.c], .agg #[.int .u8 (y.k.toNat : Nat), .slice y.a y.d.length y.c]] w fun e w' => e = .returned (.bool true) ∧ Below w.heap.size w w' := by
  obtain ⟨xk, xa, xc, xd⟩ := x
  obtain ⟨yk, ya, yc, yd⟩ := y
  simp only [rc, Prod.mk.injEq] at h
  obtain ⟨rfl, rfl⟩ := h
  exact same_yes _ _ _ _ _ _ _ _ _ h1 h2
theorem InRs.at {w : World} {a : Option Addr} {L : List Rv} (h : InRs w a L) {i : Nat} (hi : i < L.length) : ∃ g o, a = some ⟨g, o, none⟩ ∧ RecIn w g o i L[i] := by
  rcases h with h | ⟨g, o, e, h⟩
  · subst h; exact absurd hi (Nat.not_lt_zero _)
  · exact ⟨g, o, e, h i hi⟩
theorem InRs.cap {n c : Nat} : n ≤ c → c ≤ 9223372036854775807 → n ≤ 9223372036854775807 := fun a b => Nat.le_trans a b

set_option maxRecDepth 20000 in
set_option maxHeartbeats 8000000 in
theorem begins_yes (ag : Option Addr) (cg : Nat) (G : List Rv) (as' : Option Addr) (cs : Nat) (S : List Rv) (at' : Option Addr) (ct : Nat) (T : List Rv) (w : World) (hg : InRs w ag G) (hs : InRs w as' S) (ht : InRs w at' T) (k : Nat) (hk : k ≤ T.length) (h : G.map rc = S.map rc ++ (T.map rc).take k) (hcg : G.length ≤ 1000000) (hcs : S.length ≤ 1000000) (hct : T.length ≤ 1000000) :
    Calls Tryd.prog 20 #[.slice ag G.length cg, .slice as' S.length cs, .slice at' T.length ct] w fun e w' => e = .returned (.bool true) ∧ Below w.heap.size w w' := by
  have hl : G.length = S.length + k := by
    have := congrArg List.length h
    simpa [Nat.min_eq_left hk] using this
  have hS : ∀ i (h1 : i < S.length) (h2 : i < G.length), rc G[i] = rc S[i] := fun i h1 h2 => by
    have := congrArg (fun l => l[i]?) h
    simp only [List.getElem?_map, List.getElem?_append_left (show i < (S.map rc).length by simpa using h1), List.getElem?_eq_getElem h1, List.getElem?_eq_getElem h2, Option.map_some, Option.some.injEq] at this
    exact this
  have hT : ∀ i (h0 : S.length ≤ i) (h1 : i - S.length < T.length) (h2 : i < G.length), rc G[i] = rc T[i - S.length] := fun i h0 h1 h2 => by
    have := congrArg (fun l => l[i]?) h
    have hik : i - S.length < k := by omega
    simp only [List.getElem?_map, List.getElem?_append_right (show (S.map rc).length ≤ i by simpa using h0), List.length_map, List.getElem?_take, if_pos hik, List.getElem?_eq_getElem h1, List.getElem?_eq_getElem h2, Option.map_some, Option.some.injEq] at this
    exact this
  have H := Lib.hid (And.intro hg (And.intro hs (And.intro ht (And.intro hS (And.intro hT hl)))))
  have hmix : Tryd.prog.follows .mixedOrders = true := by kernel_rfl
  have e0 : ¬ (G.length : Int) < (S.length : Int) := by omega
  have e1 : ¬ (G.length : Int) > (S.length : Int) + (T.length : Int) := by omega
  have e2 : wrap64 ((S.length : Int) + (T.length : Int)) = (S.length : Int) + (T.length : Int) := by unfold wrap64; omega
  clear hg hs ht hS hT h hl
  go_enter Tryd.func20, Tryd.ntmps20
  go_wp2_with fail
  go_loopw [26] (fun kv wr => ∃ i : Nat, i ≤ G.length ∧ kv = .int .i64 i ∧ Below w.heap.size w wr) (fun kv _ => G.length - (intOf kv).toNat)
  case atStart => exact ⟨0, Nat.zero_le _, rfl, Below.refl _ _⟩
  case round =>
    obtain ⟨i, hi, rfl, hb⟩ := hrel
    by_cases hlt : i < G.length
    · have hkc : (i : Int) < (G.length : Int) := by omega
      obtain ⟨gg, og, rfl, hrg⟩ := H.out.1.at hlt
      obtain ⟨x, hx⟩ : ∃ x, x = G[i] := ⟨_, rfl⟩
      rw [← hx] at hrg
      obtain ⟨c0, c1, hib⟩ := hrg.old hb
      have hm0 : (0 : Int) ≤ (i : Int) := by omega
      obtain ⟨W1, hW1⟩ : ∃ W, W = wr.alloc (.cells #[.int .u8 (x.k.toNat : Nat), .slice x.a x.d.length x.c] 34) := ⟨_, rfl⟩
      have hb1 : Below wr.heap.size wr W1 := by rw [hW1]; exact (Below.refl _ _).alloc (Nat.le_refl _) _
      have x1 : W1.heap[wr.heap.size]? = some (.cells #[.int .u8 (x.k.toNat : Nat), .slice x.a x.d.length x.c] 34 (0, 0)) := by rw [hW1]; exact heap_alloc_new wr _
      have hlt1 := lt_of_block x1
      by_cases hsl : i < S.length
      · obtain ⟨gs, os, rfl, hrs⟩ := H.out.2.1.at hsl
        obtain ⟨y, hy⟩ : ∃ y, y = S[i] := ⟨_, rfl⟩
        rw [← hy] at hrs
        obtain ⟨d0, d1, hjb⟩ := (hrs.old hb).old hb1
        have hxy : rc x = rc y := by rw [hx, hy]; exact H.out.2.2.2.1 i hsl hlt
        have hslI : (i : Int) < (S.length : Int) := by omega
        obtain ⟨⟨q0, q1⟩, _⟩ := two_cells x1
        have HLT := Lib.hid (And.intro hlt1 (World.block_lt_of_cell? W1 _ d0))
        have HXY := Lib.hid hxy
        have HI := Lib.hid (And.intro (hib.old hb1) (And.intro hjb (And.intro (hb.trans (hb1.mono hb.size)) (Nat.le_trans hb.size hb1.size))))
        have HW := Lib.hid hW1
        clear hx hy hb hib hjb hrg hrs x1 hlt1 hxy hb1 hW1
        go_wp2_with fail
        rw [← HW.out]
        refine begin' 31 (fun X => Below W1.heap.size W1 X) hmix (Below.refl W1.heap.size W1).drew (fun hS0 => ?_)
        refine Ht.takeN (i := 0) ⟨some 31, _, _, _, _, _⟩ (.int .i64 (i : Nat)) rfl (Nat.le_refl 31) (by kernel_rfl) (by kernel_rfl) (by kernel_rfl) (by kernel_rfl) hS0 (Or.inl ⟨by rfl, by (intro X hX; go_simp)⟩) ?_
        simp only [Act.put, List.setIfInBounds_toArray, List.set_cons_zero, List.set_cons_succ]
        refine Ht.takeN (i := 1) ⟨some 32, _, _, _, _, _⟩ (.slice (some ⟨gs, os, none⟩) S.length cs) rfl (Nat.le_refl 31) (by kernel_rfl) (by kernel_rfl) (by kernel_rfl) (by kernel_rfl) hS0 (Or.inl ⟨by rfl, by (intro X hX; go_simp)⟩) ?_
        simp only [Act.put, List.setIfInBounds_toArray, List.set_cons_zero, List.set_cons_succ]
        refine Ht.takeN (i := 2) ⟨some 33, _, _, _, _, _⟩ (.int .i64 (S.length : Nat)) rfl (Nat.le_refl 31) (by kernel_rfl) (by kernel_rfl) (by kernel_rfl) (by kernel_rfl) hS0 (Or.inl ⟨by rfl, by (intro X hX; go_simp)⟩) ?_
        simp only [Act.put, List.setIfInBounds_toArray, List.set_cons_zero, List.set_cons_succ]
        refine Ht.takeN (i := 3) ⟨some 34, _, _, _, _, _⟩ (.bool true) rfl (Nat.le_refl 31) (by kernel_rfl) (by kernel_rfl) (by kernel_rfl) (by kernel_rfl) hS0 (Or.inl ⟨by rfl, by (intro X hX; go_simp)⟩) ?_
        simp only [Act.put, List.setIfInBounds_toArray, List.set_cons_zero, List.set_cons_succ]
        refine Ht.takeN (i := 4) ⟨some 35, _, _, _, _, _⟩ (.bool true) rfl (Nat.le_refl 31) (by kernel_rfl) (by kernel_rfl) (by kernel_rfl) (by kernel_rfl) hS0 (Or.inl ⟨by rfl, by (intro X hX; go_simp)⟩) ?_
        simp only [Act.put, List.setIfInBounds_toArray, List.set_cons_zero, List.set_cons_succ]
        refine Ht.takeN (i := 5) ⟨some 36, _, _, _, _, _⟩ (.agg #[.int .u8 (x.k.toNat : Nat), .slice x.a x.d.length x.c]) rfl (Nat.le_refl 31) (by kernel_rfl) (by kernel_rfl) (by kernel_rfl) (by kernel_rfl) hS0 (Or.inl ⟨by rfl, by (intro X hX; have h1 := (hX.cell (p := ⟨wr.heap.size, 0, none⟩) HLT.out.1).trans q0; have h2 := (hX.cell (p := ⟨wr.heap.size, 1, none⟩) HLT.out.1).trans q1; go_simp)⟩) ?_
        simp only [Act.put, List.setIfInBounds_toArray, List.set_cons_zero, List.set_cons_succ]
        refine Ht.takeN (i := 6) ⟨some 37, _, _, _, _, _⟩ (.slice (some ⟨gs, os, none⟩) S.length cs) rfl (Nat.le_refl 31) (by kernel_rfl) (by kernel_rfl) (by kernel_rfl) (by kernel_rfl) hS0 (Or.inl ⟨by rfl, by (intro X hX; go_simp)⟩) ?_
        simp only [Act.put, List.setIfInBounds_toArray, List.set_cons_zero, List.set_cons_succ]
        refine Ht.takeN (i := 7) ⟨some 38, _, _, _, _, _⟩ (.int .i64 (i : Nat)) rfl (Nat.le_refl 31) (by kernel_rfl) (by kernel_rfl) (by kernel_rfl) (by kernel_rfl) hS0 (Or.inl ⟨by rfl, by (intro X hX; go_simp)⟩) ?_
        simp only [Act.put, List.setIfInBounds_toArray, List.set_cons_zero, List.set_cons_succ]
        refine Ht.takeN (i := 8) ⟨some 39, _, _, _, _, _⟩ (.pointer (some ⟨gs, os + i * 2, none⟩)) rfl (Nat.le_refl 31) (by kernel_rfl) (by kernel_rfl) (by kernel_rfl) (by kernel_rfl) hS0 (Or.inl ⟨by rfl, by (intro X hX; go_simp)⟩) ?_
        simp only [Act.put, List.setIfInBounds_toArray, List.set_cons_zero, List.set_cons_succ]
        refine Ht.takeN (i := 9) ⟨some 40, _, _, _, _, _⟩ (.agg #[.int .u8 (y.k.toNat : Nat), .slice y.a y.d.length y.c]) rfl (Nat.le_refl 31) (by kernel_rfl) (by kernel_rfl) (by kernel_rfl) (by kernel_rfl) hS0 (Or.inl ⟨by rfl, by (intro X hX; have h1 := (hX.cell (p := ⟨gs, os + i * 2, none⟩) HLT.out.2).trans d0; have h2 := (hX.cell (p := ⟨gs, os + i * 2 + 1, none⟩) HLT.out.2).trans d1; go_simp)⟩) ?_
        simp only [Act.put, List.setIfInBounds_toArray, List.set_cons_zero, List.set_cons_succ]
        refine Ht.step (i := 10) ⟨some 41, _, _, _, _, _⟩ rfl (by kernel_rfl) (by rfl) (fun K hK => ?_)
        refine Ht.enter 41 #[.agg #[.int .u8 (x.k.toNat : Nat), .slice x.a x.d.length x.c], .agg #[.int .u8 (y.k.toNat : Nat), .slice y.a y.d.length y.c]] (by have hen := fun args w => enters_of (P := Tryd.prog) Tryd.func41 (by kernel_rfl) rfl args w; go_simp) (same_rc x y HXY.out _ (HI.out.1.old (hS0)) (HI.out.2.1.old (hS0))) ?_
        rintro e Y1 ⟨rfl, hY1⟩
        have hS1 : Below W1.heap.size W1 Y1 := hS0.trans (hY1.mono hS0.size)
        have HB1 := Lib.hid hS1
        clear hY1
        refine ⟨_, rfl, hK _ _ (fun _ => hS1) (fun _ => ?_)⟩
        clear hK K
        simp only [Act.put, List.setIfInBounds_toArray, List.set_cons_zero, List.set_cons_succ]
        refine Ht.takeN (i := 11) ⟨some 42, _, _, _, _, _⟩ (.bool false) rfl (Nat.le_refl 31) (by kernel_rfl) (by kernel_rfl) (by kernel_rfl) (by kernel_rfl) hS1 (Or.inl ⟨by rfl, by (intro X hX; go_simp)⟩) ?_
        simp only [Act.put, List.setIfInBounds_toArray, List.set_cons_zero, List.set_cons_succ]
        refine Ht.takeN (i := 12) ⟨some 43, _, _, _, _, _⟩ (.bool false) rfl (Nat.le_refl 31) (by kernel_rfl) (by kernel_rfl) (by kernel_rfl) (by kernel_rfl) hS1 (Or.inl ⟨by rfl, by (intro X hX; go_simp)⟩) ?_
        simp only [Act.put, List.setIfInBounds_toArray, List.set_cons_zero, List.set_cons_succ]
        refine Ht.takeN (i := 13) ⟨some 44, _, _, _, _, _⟩ (.bool false) rfl (Nat.le_refl 31) (by kernel_rfl) (by kernel_rfl) (by kernel_rfl) (by kernel_rfl) hS1 (Or.inl ⟨by rfl, by (intro X hX; go_simp)⟩) ?_
        simp only [Act.put, List.setIfInBounds_toArray, List.set_cons_zero, List.set_cons_succ]
        refine Ht.takeN (i := 14) ⟨some 45, _, _, _, _, _⟩ (.int .i64 (i : Nat)) rfl (Nat.le_refl 31) (by kernel_rfl) (by kernel_rfl) (by kernel_rfl) (by kernel_rfl) hS1 (Or.inl ⟨by rfl, by (intro X hX; go_simp)⟩) ?_
        simp only [Act.put, List.setIfInBounds_toArray, List.set_cons_zero, List.set_cons_succ]
        refine Ht.takeN (i := 15) ⟨some 46, _, _, _, _, _⟩ (.slice (some ⟨gs, os, none⟩) S.length cs) rfl (Nat.le_refl 31) (by kernel_rfl) (by kernel_rfl) (by kernel_rfl) (by kernel_rfl) hS1 (Or.inl ⟨by rfl, by (intro X hX; go_simp)⟩) ?_
        simp only [Act.put, List.setIfInBounds_toArray, List.set_cons_zero, List.set_cons_succ]
        refine Ht.takeN (i := 16) ⟨some 47, _, _, _, _, _⟩ (.int .i64 (S.length : Nat)) rfl (Nat.le_refl 31) (by kernel_rfl) (by kernel_rfl) (by kernel_rfl) (by kernel_rfl) hS1 (Or.inl ⟨by rfl, by (intro X hX; go_simp)⟩) ?_
        simp only [Act.put, List.setIfInBounds_toArray, List.set_cons_zero, List.set_cons_succ]
        refine Ht.takeN (i := 17) ⟨some 48, _, _, _, _, _⟩ (.bool false) rfl (Nat.le_refl 31) (by kernel_rfl) (by kernel_rfl) (by kernel_rfl) (by kernel_rfl) hS1 (Or.inl ⟨by rfl, by (intro X hX; go_simp)⟩) ?_
        simp only [Act.put, List.setIfInBounds_toArray, List.set_cons_zero, List.set_cons_succ]
        refine Ht.takeN (i := 18) ⟨some 49, _, _, _, _, _⟩ (.bool false) rfl (Nat.le_refl 31) (by kernel_rfl) (by kernel_rfl) (by kernel_rfl) (by kernel_rfl) hS1 (Or.inl ⟨by rfl, by (intro X hX; go_simp)⟩) ?_
        simp only [Act.put, List.setIfInBounds_toArray, List.set_cons_zero, List.set_cons_succ]
        refine Ht.takeN (i := 19) ⟨some 50, _, _, _, _, _⟩ (undef) rfl (Nat.le_refl 31) (by kernel_rfl) (by kernel_rfl) (by kernel_rfl) (by kernel_rfl) hS1 (Or.inr ⟨by rfl, rfl⟩) ?_
        simp only [Act.put, List.setIfInBounds_toArray, List.set_cons_zero, List.set_cons_succ]
        refine Ht.takeN (i := 20) ⟨some 51, _, _, _, _, _⟩ (undef) rfl (Nat.le_refl 31) (by kernel_rfl) (by kernel_rfl) (by kernel_rfl) (by kernel_rfl) hS1 (Or.inr ⟨by rfl, rfl⟩) ?_
        simp only [Act.put, List.setIfInBounds_toArray, List.set_cons_zero, List.set_cons_succ]
        refine Ht.takeN (i := 21) ⟨some 52, _, _, _, _, _⟩ (undef) rfl (Nat.le_refl 31) (by kernel_rfl) (by kernel_rfl) (by kernel_rfl) (by kernel_rfl) hS1 (Or.inr ⟨by rfl, rfl⟩) ?_
        simp only [Act.put, List.setIfInBounds_toArray, List.set_cons_zero, List.set_cons_succ]
        refine Ht.takeN (i := 22) ⟨some 53, _, _, _, _, _⟩ (undef) rfl (Nat.le_refl 31) (by kernel_rfl) (by kernel_rfl) (by kernel_rfl) (by kernel_rfl) hS1 (Or.inr ⟨by rfl, rfl⟩) ?_
        simp only [Act.put, List.setIfInBounds_toArray, List.set_cons_zero, List.set_cons_succ]
        refine Ht.takeN (i := 23) ⟨some 54, _, _, _, _, _⟩ (undef) rfl (Nat.le_refl 31) (by kernel_rfl) (by kernel_rfl) (by kernel_rfl) (by kernel_rfl) hS1 (Or.inr ⟨by rfl, rfl⟩) ?_
        simp only [Act.put, List.setIfInBounds_toArray, List.set_cons_zero, List.set_cons_succ]
        refine Ht.takeN (i := 24) ⟨some 55, _, _, _, _, _⟩ (undef) rfl (Nat.le_refl 31) (by kernel_rfl) (by kernel_rfl) (by kernel_rfl) (by kernel_rfl) hS1 (Or.inr ⟨by rfl, rfl⟩) ?_
        simp only [Act.put, List.setIfInBounds_toArray, List.set_cons_zero, List.set_cons_succ]
        refine Ht.takeN (i := 25) ⟨some 56, _, _, _, _, _⟩ (undef) rfl (Nat.le_refl 31) (by kernel_rfl) (by kernel_rfl) (by kernel_rfl) (by kernel_rfl) hS1 (Or.inr ⟨by rfl, rfl⟩) ?_
        simp only [Act.put, List.setIfInBounds_toArray, List.set_cons_zero, List.set_cons_succ]
        refine Ht.takeN (i := 26) ⟨some 57, _, _, _, _, _⟩ (undef) rfl (Nat.le_refl 31) (by kernel_rfl) (by kernel_rfl) (by kernel_rfl) (by kernel_rfl) hS1 (Or.inr ⟨by rfl, rfl⟩) ?_
        simp only [Act.put, List.setIfInBounds_toArray, List.set_cons_zero, List.set_cons_succ]
        refine Ht.takeN (i := 27) ⟨some 58, _, _, _, _, _⟩ (undef) rfl (Nat.le_refl 31) (by kernel_rfl) (by kernel_rfl) (by kernel_rfl) (by kernel_rfl) hS1 (Or.inr ⟨by rfl, rfl⟩) ?_
        simp only [Act.put, List.setIfInBounds_toArray, List.set_cons_zero, List.set_cons_succ]
        refine Ht.takeN (i := 28) ⟨some 59, _, _, _, _, _⟩ (undef) rfl (Nat.le_refl 31) (by kernel_rfl) (by kernel_rfl) (by kernel_rfl) (by kernel_rfl) hS1 (Or.inr ⟨by rfl, rfl⟩) ?_
        simp only [Act.put, List.setIfInBounds_toArray, List.set_cons_zero, List.set_cons_succ]
        refine Ht.takeN (i := 29) ⟨some 60, _, _, _, _, _⟩ (.bool false) rfl (Nat.le_refl 31) (by kernel_rfl) (by kernel_rfl) (by kernel_rfl) (by kernel_rfl) hS1 (Or.inl ⟨by rfl, by (intro X hX; go_simp)⟩) ?_
        simp only [Act.put, List.setIfInBounds_toArray, List.set_cons_zero, List.set_cons_succ]
        refine Ht.takeN (i := 30) ⟨some 61, _, _, _, _, _⟩ (.bool false) rfl (Nat.le_refl 31) (by kernel_rfl) (by kernel_rfl) (by kernel_rfl) (by kernel_rfl) hS1 (Or.inl ⟨by rfl, by (intro X hX; go_simp)⟩) ?_
        simp only [Act.put, List.setIfInBounds_toArray, List.set_cons_zero, List.set_cons_succ]
        refine done (by kernel_rfl) ?_
        go_wp2_with fail
        go_roundw
        case rel => exact ⟨i + 1, by omega, by go_num, HI.out.2.2.1.trans (HB1.out.mono HI.out.2.2.2)⟩
        case measure => simp [intOf]; omega
      · obtain ⟨j, hj⟩ : ∃ j, j = i - S.length := ⟨_, rfl⟩
        have hjl : j < T.length := by have := H.out.2.2.2.2.2; omega
        obtain ⟨gs, os, rfl, hrs⟩ := H.out.2.2.1.at hjl
        obtain ⟨y, hy⟩ : ∃ y, y = T[j] := ⟨_, rfl⟩
        rw [← hy] at hrs
        obtain ⟨d0, d1, hjb⟩ := (hrs.old hb).old hb1
        have hxy : rc x = rc y := by subst hj; rw [hx, hy]; exact H.out.2.2.2.2.1 i (by omega) hjl hlt
        have hslI : ¬ (i : Int) < (S.length : Int) := by omega
        have hslJ : (S.length : Int) ≤ (i : Int) := by omega
        have hji : wrap64 ((i : Int) - (S.length : Int)) = (j : Int) := by unfold wrap64; omega
        have hji2 : IntKind.i64.wrap ((i : Int) - (S.length : Int)) = (j : Int) := by rw [IntKind.wrap_i64]; omega
        have hjlI : (j : Int) < (T.length : Int) := by omega
        have hj0 : (0 : Int) ≤ (j : Int) := by omega
        obtain ⟨⟨q0, q1⟩, _⟩ := two_cells x1
        have HLT := Lib.hid (And.intro hlt1 (World.block_lt_of_cell? W1 _ d0))
        have HXY := Lib.hid hxy
        have HI := Lib.hid (And.intro (hib.old hb1) (And.intro hjb (And.intro (hb.trans (hb1.mono hb.size)) (Nat.le_trans hb.size hb1.size))))
        have HW := Lib.hid hW1
        clear hx hy hb hib hjb hrg hrs x1 hlt1 hxy hb1 hW1 hj
        go_wp2_with fail
        rw [← HW.out]
        refine begin' 31 (fun X => Below W1.heap.size W1 X) hmix (Below.refl W1.heap.size W1).drew (fun hS0 => ?_)
        refine Ht.takeN (i := 0) ⟨some 31, _, _, _, _, _⟩ (.int .i64 (i : Nat)) rfl (Nat.le_refl 31) (by kernel_rfl) (by kernel_rfl) (by kernel_rfl) (by kernel_rfl) hS0 (Or.inl ⟨by rfl, by (intro X hX; go_simp)⟩) ?_
        simp only [Act.put, List.setIfInBounds_toArray, List.set_cons_zero, List.set_cons_succ]
        refine Ht.takeN (i := 1) ⟨some 32, _, _, _, _, _⟩ (.slice as' S.length cs) rfl (Nat.le_refl 31) (by kernel_rfl) (by kernel_rfl) (by kernel_rfl) (by kernel_rfl) hS0 (Or.inl ⟨by rfl, by (intro X hX; go_simp)⟩) ?_
        simp only [Act.put, List.setIfInBounds_toArray, List.set_cons_zero, List.set_cons_succ]
        refine Ht.takeN (i := 2) ⟨some 33, _, _, _, _, _⟩ (.int .i64 (S.length : Nat)) rfl (Nat.le_refl 31) (by kernel_rfl) (by kernel_rfl) (by kernel_rfl) (by kernel_rfl) hS0 (Or.inl ⟨by rfl, by (intro X hX; go_simp)⟩) ?_
        simp only [Act.put, List.setIfInBounds_toArray, List.set_cons_zero, List.set_cons_succ]
        refine Ht.takeN (i := 3) ⟨some 34, _, _, _, _, _⟩ (.bool false) rfl (Nat.le_refl 31) (by kernel_rfl) (by kernel_rfl) (by kernel_rfl) (by kernel_rfl) hS0 (Or.inl ⟨by rfl, by (intro X hX; go_simp)⟩) ?_
        simp only [Act.put, List.setIfInBounds_toArray, List.set_cons_zero, List.set_cons_succ]
        refine Ht.takeN (i := 4) ⟨some 35, _, _, _, _, _⟩ (.bool false) rfl (Nat.le_refl 31) (by kernel_rfl) (by kernel_rfl) (by kernel_rfl) (by kernel_rfl) hS0 (Or.inl ⟨by rfl, by (intro X hX; go_simp)⟩) ?_
        simp only [Act.put, List.setIfInBounds_toArray, List.set_cons_zero, List.set_cons_succ]
        refine Ht.takeN (i := 5) ⟨some 36, _, _, _, _, _⟩ (undef) rfl (Nat.le_refl 31) (by kernel_rfl) (by kernel_rfl) (by kernel_rfl) (by kernel_rfl) hS0 (Or.inr ⟨by rfl, rfl⟩) ?_
        simp only [Act.put, List.setIfInBounds_toArray, List.set_cons_zero, List.set_cons_succ]
        refine Ht.takeN (i := 6) ⟨some 37, _, _, _, _, _⟩ (undef) rfl (Nat.le_refl 31) (by kernel_rfl) (by kernel_rfl) (by kernel_rfl) (by kernel_rfl) hS0 (Or.inr ⟨by rfl, rfl⟩) ?_
        simp only [Act.put, List.setIfInBounds_toArray, List.set_cons_zero, List.set_cons_succ]
        refine Ht.takeN (i := 7) ⟨some 38, _, _, _, _, _⟩ (undef) rfl (Nat.le_refl 31) (by kernel_rfl) (by kernel_rfl) (by kernel_rfl) (by kernel_rfl) hS0 (Or.inr ⟨by rfl, rfl⟩) ?_
        simp only [Act.put, List.setIfInBounds_toArray, List.set_cons_zero, List.set_cons_succ]
        refine Ht.takeN (i := 8) ⟨some 39, _, _, _, _, _⟩ (undef) rfl (Nat.le_refl 31) (by kernel_rfl) (by kernel_rfl) (by kernel_rfl) (by kernel_rfl) hS0 (Or.inr ⟨by rfl, rfl⟩) ?_
        simp only [Act.put, List.setIfInBounds_toArray, List.set_cons_zero, List.set_cons_succ]
        refine Ht.takeN (i := 9) ⟨some 40, _, _, _, _, _⟩ (undef) rfl (Nat.le_refl 31) (by kernel_rfl) (by kernel_rfl) (by kernel_rfl) (by kernel_rfl) hS0 (Or.inr ⟨by rfl, rfl⟩) ?_
        simp only [Act.put, List.setIfInBounds_toArray, List.set_cons_zero, List.set_cons_succ]
        refine Ht.takeN (i := 10) ⟨some 41, _, _, _, _, _⟩ (undef) rfl (Nat.le_refl 31) (by kernel_rfl) (by kernel_rfl) (by kernel_rfl) (by kernel_rfl) hS0 (Or.inr ⟨by rfl, rfl⟩) ?_
        simp only [Act.put, List.setIfInBounds_toArray, List.set_cons_zero, List.set_cons_succ]
        refine Ht.takeN (i := 11) ⟨some 42, _, _, _, _, _⟩ (undef) rfl (Nat.le_refl 31) (by kernel_rfl) (by kernel_rfl) (by kernel_rfl) (by kernel_rfl) hS0 (Or.inr ⟨by rfl, rfl⟩) ?_
        simp only [Act.put, List.setIfInBounds_toArray, List.set_cons_zero, List.set_cons_succ]
        refine Ht.takeN (i := 12) ⟨some 43, _, _, _, _, _⟩ (.bool false) rfl (Nat.le_refl 31) (by kernel_rfl) (by kernel_rfl) (by kernel_rfl) (by kernel_rfl) hS0 (Or.inl ⟨by rfl, by (intro X hX; go_simp)⟩) ?_
        simp only [Act.put, List.setIfInBounds_toArray, List.set_cons_zero, List.set_cons_succ]
        refine Ht.takeN (i := 13) ⟨some 44, _, _, _, _, _⟩ (.bool false) rfl (Nat.le_refl 31) (by kernel_rfl) (by kernel_rfl) (by kernel_rfl) (by kernel_rfl) hS0 (Or.inl ⟨by rfl, by (intro X hX; go_simp)⟩) ?_
        simp only [Act.put, List.setIfInBounds_toArray, List.set_cons_zero, List.set_cons_succ]
        refine Ht.takeN (i := 14) ⟨some 45, _, _, _, _, _⟩ (.int .i64 (i : Nat)) rfl (Nat.le_refl 31) (by kernel_rfl) (by kernel_rfl) (by kernel_rfl) (by kernel_rfl) hS0 (Or.inl ⟨by rfl, by (intro X hX; go_simp)⟩) ?_
        simp only [Act.put, List.setIfInBounds_toArray, List.set_cons_zero, List.set_cons_succ]
        refine Ht.takeN (i := 15) ⟨some 46, _, _, _, _, _⟩ (.slice as' S.length cs) rfl (Nat.le_refl 31) (by kernel_rfl) (by kernel_rfl) (by kernel_rfl) (by kernel_rfl) hS0 (Or.inl ⟨by rfl, by (intro X hX; go_simp)⟩) ?_
        simp only [Act.put, List.setIfInBounds_toArray, List.set_cons_zero, List.set_cons_succ]
        refine Ht.takeN (i := 16) ⟨some 47, _, _, _, _, _⟩ (.int .i64 (S.length : Nat)) rfl (Nat.le_refl 31) (by kernel_rfl) (by kernel_rfl) (by kernel_rfl) (by kernel_rfl) hS0 (Or.inl ⟨by rfl, by (intro X hX; go_simp)⟩) ?_
        simp only [Act.put, List.setIfInBounds_toArray, List.set_cons_zero, List.set_cons_succ]
        refine Ht.takeN (i := 17) ⟨some 48, _, _, _, _, _⟩ (.bool true) rfl (Nat.le_refl 31) (by kernel_rfl) (by kernel_rfl) (by kernel_rfl) (by kernel_rfl) hS0 (Or.inl ⟨by rfl, by (intro X hX; go_simp)⟩) ?_
        simp only [Act.put, List.setIfInBounds_toArray, List.set_cons_zero, List.set_cons_succ]
        refine Ht.takeN (i := 18) ⟨some 49, _, _, _, _, _⟩ (.bool true) rfl (Nat.le_refl 31) (by kernel_rfl) (by kernel_rfl) (by kernel_rfl) (by kernel_rfl) hS0 (Or.inl ⟨by rfl, by (intro X hX; go_simp)⟩) ?_
        simp only [Act.put, List.setIfInBounds_toArray, List.set_cons_zero, List.set_cons_succ]
        refine Ht.takeN (i := 19) ⟨some 50, _, _, _, _, _⟩ (.agg #[.int .u8 (x.k.toNat : Nat), .slice x.a x.d.length x.c]) rfl (Nat.le_refl 31) (by kernel_rfl) (by kernel_rfl) (by kernel_rfl) (by kernel_rfl) hS0 (Or.inl ⟨by rfl, by (intro X hX; have h1 := (hX.cell (p := ⟨wr.heap.size, 0, none⟩) HLT.out.1).trans q0; have h2 := (hX.cell (p := ⟨wr.heap.size, 1, none⟩) HLT.out.1).trans q1; go_simp)⟩) ?_
        simp only [Act.put, List.setIfInBounds_toArray, List.set_cons_zero, List.set_cons_succ]
        refine Ht.takeN (i := 20) ⟨some 51, _, _, _, _, _⟩ (.slice (some ⟨gs, os, none⟩) T.length ct) rfl (Nat.le_refl 31) (by kernel_rfl) (by kernel_rfl) (by kernel_rfl) (by kernel_rfl) hS0 (Or.inl ⟨by rfl, by (intro X hX; go_simp)⟩) ?_
        simp only [Act.put, List.setIfInBounds_toArray, List.set_cons_zero, List.set_cons_succ]
        refine Ht.takeN (i := 21) ⟨some 52, _, _, _, _, _⟩ (.int .i64 (i : Nat)) rfl (Nat.le_refl 31) (by kernel_rfl) (by kernel_rfl) (by kernel_rfl) (by kernel_rfl) hS0 (Or.inl ⟨by rfl, by (intro X hX; go_simp)⟩) ?_
        simp only [Act.put, List.setIfInBounds_toArray, List.set_cons_zero, List.set_cons_succ]
        refine Ht.takeN (i := 22) ⟨some 53, _, _, _, _, _⟩ (.slice as' S.length cs) rfl (Nat.le_refl 31) (by kernel_rfl) (by kernel_rfl) (by kernel_rfl) (by kernel_rfl) hS0 (Or.inl ⟨by rfl, by (intro X hX; go_simp)⟩) ?_
        simp only [Act.put, List.setIfInBounds_toArray, List.set_cons_zero, List.set_cons_succ]
        refine Ht.takeN (i := 23) ⟨some 54, _, _, _, _, _⟩ (.int .i64 (S.length : Nat)) rfl (Nat.le_refl 31) (by kernel_rfl) (by kernel_rfl) (by kernel_rfl) (by kernel_rfl) hS0 (Or.inl ⟨by rfl, by (intro X hX; go_simp)⟩) ?_
        simp only [Act.put, List.setIfInBounds_toArray, List.set_cons_zero, List.set_cons_succ]
        refine Ht.takeN (i := 24) ⟨some 55, _, _, _, _, _⟩ (.int .i64 (j : Nat)) rfl (Nat.le_refl 31) (by kernel_rfl) (by kernel_rfl) (by kernel_rfl) (by kernel_rfl) hS0 (Or.inl ⟨by rfl, by (intro X hX; go_simp)⟩) ?_
        simp only [Act.put, List.setIfInBounds_toArray, List.set_cons_zero, List.set_cons_succ]
        refine Ht.takeN (i := 25) ⟨some 56, _, _, _, _, _⟩ (.pointer (some ⟨gs, os + j * 2, none⟩)) rfl (Nat.le_refl 31) (by kernel_rfl) (by kernel_rfl) (by kernel_rfl) (by kernel_rfl) hS0 (Or.inl ⟨by rfl, by (intro X hX; go_simp)⟩) ?_
        simp only [Act.put, List.setIfInBounds_toArray, List.set_cons_zero, List.set_cons_succ]
        refine Ht.takeN (i := 26) ⟨some 57, _, _, _, _, _⟩ (.agg #[.int .u8 (y.k.toNat : Nat), .slice y.a y.d.length y.c]) rfl (Nat.le_refl 31) (by kernel_rfl) (by kernel_rfl) (by kernel_rfl) (by kernel_rfl) hS0 (Or.inl ⟨by rfl, by (intro X hX; have h1 := (hX.cell (p := ⟨gs, os + j * 2, none⟩) HLT.out.2).trans d0; have h2 := (hX.cell (p := ⟨gs, os + j * 2 + 1, none⟩) HLT.out.2).trans d1; go_simp)⟩) ?_
        simp only [Act.put, List.setIfInBounds_toArray, List.set_cons_zero, List.set_cons_succ]
        refine Ht.step (i := 27) ⟨some 58, _, _, _, _, _⟩ rfl (by kernel_rfl) (by rfl) (fun K hK => ?_)
        refine Ht.enter 41 #[.agg #[.int .u8 (x.k.toNat : Nat), .slice x.a x.d.length x.c], .agg #[.int .u8 (y.k.toNat : Nat), .slice y.a y.d.length y.c]] (by have hen := fun args w => enters_of (P := Tryd.prog) Tryd.func41 (by kernel_rfl) rfl args w; go_simp) (same_rc x y HXY.out _ (HI.out.1.old (hS0)) (HI.out.2.1.old (hS0))) ?_
        rintro e Y1 ⟨rfl, hY1⟩
        have hS1 : Below W1.heap.size W1 Y1 := hS0.trans (hY1.mono hS0.size)
        have HB1 := Lib.hid hS1
        clear hY1
        refine ⟨_, rfl, hK _ _ (fun _ => hS1) (fun _ => ?_)⟩
        clear hK K
        simp only [Act.put, List.setIfInBounds_toArray, List.set_cons_zero, List.set_cons_succ]
        refine Ht.takeN (i := 28) ⟨some 59, _, _, _, _, _⟩ (.bool false) rfl (Nat.le_refl 31) (by kernel_rfl) (by kernel_rfl) (by kernel_rfl) (by kernel_rfl) hS1 (Or.inl ⟨by rfl, by (intro X hX; go_simp)⟩) ?_
        simp only [Act.put, List.setIfInBounds_toArray, List.set_cons_zero, List.set_cons_succ]
        refine Ht.takeN (i := 29) ⟨some 60, _, _, _, _, _⟩ (.bool false) rfl (Nat.le_refl 31) (by kernel_rfl) (by kernel_rfl) (by kernel_rfl) (by kernel_rfl) hS1 (Or.inl ⟨by rfl, by (intro X hX; go_simp)⟩) ?_
        simp only [Act.put, List.setIfInBounds_toArray, List.set_cons_zero, List.set_cons_succ]
        refine Ht.takeN (i := 30) ⟨some 61, _, _, _, _, _⟩ (.bool false) rfl (Nat.le_refl 31) (by kernel_rfl) (by kernel_rfl) (by kernel_rfl) (by kernel_rfl) hS1 (Or.inl ⟨by rfl, by (intro X hX; go_simp)⟩) ?_
        simp only [Act.put, List.setIfInBounds_toArray, List.set_cons_zero, List.set_cons_succ]
        refine done (by kernel_rfl) ?_
        go_wp2_with fail
        go_roundw
        case rel => exact ⟨i + 1, by omega, by go_num, HI.out.2.2.1.trans (HB1.out.mono HI.out.2.2.2)⟩
        case measure => simp [intOf]; omega
    · have hge : ¬ (i : Int) < (G.length : Int) := by omega
      go_wp2_with fail
      go_ret
      exact ⟨rfl, hb⟩
/-- alike -/
theorem alike_yes (ag : Option Addr) (cg : Nat) (G : List Rv) (as' : Option Addr) (cs : Nat) (S : List Rv) (w : World) (hg : InRs w ag G) (hs : InRs w as' S) (h : G.map rc = S.map rc) (hcg : G.length ≤ 1000000) :
    Calls Tryd.prog 21 #[.slice ag G.length cg, .slice as' S.length cs] w fun e w' => e = .returned (.bool true) ∧ Below w.heap.size w w' := by
  have hl : S.length = G.length := by simpa using (congrArg List.length h).symm
  have hb := begins_yes ag cg G as' cs S none 0 [] w hg hs (.inl rfl) 0 (Nat.le_refl _) (by simpa using h) hcg (by omega) (by simp)
  rw [hl] at hb ⊢
  have HB := Lib.hid hb
  clear hb hg hs h hl
  go_enter Tryd.func21, Tryd.ntmps21
  go_wp2_with fail
  refine HB.out.mono ?_
  rintro e w' ⟨rfl, hb⟩
  have HB2 := Lib.hid hb
  clear hb
  go_wp2_with fail
  go_ret
  exact ⟨rfl, HB2.out⟩
end Go.Proofs.YtjblkmjdepdekaaDoor.Wl

/- the table, out of what the row lists -/
namespace Go.Proofs.YtjblkmjdepdekaaDoor.Cr
open Go.ChangeShapes Go.WideShapes Go.ChangeAt Go.RowKit

def nibL : List Int := [0, 498536548, 997073096, 651767980, 1994146192, 1802195444, 1303535960, 1342533948, 3988292384, 4027552580, 3604390888, 3412177804, 2607071920, 2262029012, 2685067896, 3183342108]
def laidL : List (String × DataW Unit) := [("compline/crc.nibbles", Rows.laid_compline_crc_nibbles)]
theorem nibs_of {W : World} (h : laidMetH Tryd.prog laidL W) : Nibs W := by
  intro r hr
  rw [MakeChecks.laidMetH_plain _ _ _ (by kernel_rfl)] at h
  obtain ⟨ps, ⟨g, t, cs, fuel, p, q, hg, ht, hv, hd, _, _⟩, _, _⟩ := h
  obtain rfl := Option.some.inj ((show Tryd.prog.globalNamed "compline/crc.nibbles" = some 0 by kernel_rfl).symm.trans hg)
  obtain rfl := Option.some.inj ((show (Tryd.prog.globals[0]?).map (·.type) = some 108 by kernel_rfl).symm.trans ht)
  obtain ⟨xs, m, _, ex, _, hl, hel⟩ := DataW.trod_array Tryd.underlying108 hd
  have c5 : Tryd.prog.cellsOf 68 = 1 := by kernel_rfl
  have hE := hel r hr
  rw [c5, Nat.mul_one, List.getElem?_eq_getElem (by omega)] at hE
  obtain ⟨z, e1, e2, _⟩ := DataW.trod_int Tryd.underlying68 hE
  have hlen : nibL.length = 16 := rfl
  have e3 : (xs.map (·.1)) = nibL.map fun n => .lit (.int .u32 n) := (DataW.agg.inj (Prod.mk.inj ex).1).symm
  have e4 : (xs.map (·.1))[r]? = (nibL.map fun n => (DataW.lit (.int .u32 n) : DataW Unit))[r]? := by rw [e3]
  rw [List.getElem?_map, List.getElem?_map, List.getElem?_eq_getElem (by omega : r < xs.length), List.getElem?_eq_getElem (by omega : r < nibL.length), e2] at e4
  have hz : z = nibL.getD r 0 := by
    simp only [Option.map_some, Option.some.injEq, DataW.lit.injEq, Lit.int.injEq, true_and] at e4
    rw [e4, List.getD, List.getElem?_eq_getElem (by omega : r < nibL.length)]; rfl
  have hnib : ∀ i, i < 16 → nibL.getD i 0 = (nib i : Nat) := by decide
  rw [World.var?_cell hg hv r, ← hnib r hr, ← hz]
  have : cs.toList[r]? = some (.int .u32 z) := by
    have h0 : ((cs.toList.drop r).take 1)[0]? = some (.int .u32 z) := by rw [e1]; rfl
    simpa using h0
  simpa using this
theorem met_laid (os : Os) (args : Array Value) : laidMetH Tryd.prog laidL ((World.laidAll Tryd.prog os laidL).forCall (fun _ _ => 0) ⟨#[], args, []⟩).memory := by
  rw [MakeChecks.laidMetH_plain _ _ _ (by kernel_rfl)]; exact laidMet_laidAll _ (by kernel_rfl) (by kernel_rfl)
end Go.Proofs.YtjblkmjdepdekaaDoor.Cr
