/- who is next: mathematics -/
import Derived.Test.YtcodjknhnhdkfaaGreatDoorBr12
namespace Go.Proofs.YtcodjknhnhdkfaaGreatDoor.Nx
open Hp HpE
set_option linter.unusedVariables false
/-- one: its name, its priority, its order -/
abbrev O := K × Nat × Int
def lin (M : List O) (i : Nat) : List (K × Int) := (M.filter fun x => decide (x.2.1 = i)).map fun x => (x.1, x.2.2)
/-- is one ahead of another one? -/
def ah (x y : O) : Bool := decide (x.2.1 < y.2.1) || (decide (x.2.1 = y.2.1) && ltp (x.1, x.2.2) (y.1, y.2.2))
def del (k : K) (M : List O) : List O := M.filter fun x => decide (x.1 ≠ k)
theorem ah_iff (x y : O) : ah x y = true ↔ x.2.1 < y.2.1 ∨ (x.2.1 = y.2.1 ∧ ltp (x.1, x.2.2) (y.1, y.2.2) = true) := by unfold ah; simp
theorem ah_irrefl (x : O) : ah x x = false := by
  have h : ¬ ah x x = true := by
    rw [ah_iff]
    rintro (h | ⟨_, h⟩)
    · omega
    · rw [(swo tot_str).irrefl] at h; cases h
  simpa using h
theorem ah_trans {x y z : O} (h1 : ah x y = true) (h2 : ah y z = true) : ah x z = true := by
  rw [ah_iff] at *
  rcases h1 with h1 | ⟨h1, h3⟩ <;> rcases h2 with h2 | ⟨h2, h4⟩
  · exact .inl (by omega)
  · exact .inl (by omega)
  · exact .inl (by omega)
  · exact .inr ⟨by omega, (swo tot_str).trans _ _ _ h3 h4⟩
theorem ah_tri (x y : O) : ah x y = true ∨ x = y ∨ ah y x = true := by
  rw [ah_iff, ah_iff]
  rcases Nat.lt_trichotomy x.2.1 y.2.1 with h | h | h
  · exact .inl (.inl h)
  · rcases ltp_tri tot_str (x.1, x.2.2) (y.1, y.2.2) with h1 | h1 | h1
    · exact .inl (.inr ⟨h, h1⟩)
    · refine .inr (.inl ?_)
      have h2 := Prod.mk.inj h1
      exact Prod.ext h2.1 (Prod.ext h h2.2)
    · exact .inr (.inr (.inr ⟨h.symm, h1⟩))
  · exact .inr (.inr (.inl h))
theorem ah_asym {x y : O} (h : ah x y = true) : ah y x = false := by
  cases e : ah y x with
  | false => rfl
  | true => have := ah_trans h e; rw [ah_irrefl] at this; cases this
theorem mem_lin {M : List O} {i : Nat} {k : K} {r : Int} : (k, r) ∈ lin M i ↔ (k, i, r) ∈ M := by
  unfold lin
  rw [List.mem_map]
  constructor
  · rintro ⟨⟨k', i', r'⟩, h, e⟩
    rw [List.mem_filter, decide_eq_true_eq] at h
    obtain ⟨h1, h2⟩ := h
    simp only at h2 e
    obtain ⟨rfl, rfl⟩ := Prod.mk.inj e
    subst h2
    exact h1
  · intro h
    exact ⟨(k, i, r), List.mem_filter.2 ⟨h, by simp⟩, rfl⟩
theorem key_lin {M : List O} {i : Nat} {k : K} : k ∈ (lin M i).map (·.1) ↔ ∃ r, (k, i, r) ∈ M := by
  rw [List.mem_map]
  constructor
  · rintro ⟨⟨k', r⟩, h, rfl⟩
    exact ⟨r, mem_lin.1 h⟩
  · rintro ⟨r, h⟩
    exact ⟨(k, r), mem_lin.2 h, rfl⟩
theorem key_of' {M : List O} {k : K} (h : k ∈ M.map (·.1)) : ∃ i r, (k, i, r) ∈ M := by
  obtain ⟨⟨k', i, r⟩, h1, rfl⟩ := List.mem_map.1 h
  exact ⟨i, r, h1⟩
theorem key_in {M : List O} {k : K} {i : Nat} {r : Int} (h : (k, i, r) ∈ M) : k ∈ M.map (·.1) := List.mem_map.2 ⟨_, h, rfl⟩
/-- one name, one place -/
theorem one_of {M : List O} (hn : (M.map (·.1)).Nodup) {x y : O} (hx : x ∈ M) (hy : y ∈ M) (e : x.1 = y.1) : x = y := by
  induction M with
  | nil => cases hx
  | cons z l ih =>
    rw [List.map_cons, List.nodup_cons] at hn
    rcases List.mem_cons.1 hx with rfl | hx' <;> rcases List.mem_cons.1 hy with rfl | hy'
    · rfl
    · exact absurd (List.mem_map.2 ⟨y, hy', e.symm⟩) hn.1
    · exact absurd (List.mem_map.2 ⟨x, hx', e⟩) hn.1
    · exact ih hn.2 hx' hy'
theorem mem_del {M : List O} {k : K} {x : O} : x ∈ del k M ↔ x ∈ M ∧ x.1 ≠ k := by unfold del; rw [List.mem_filter, decide_eq_true_eq]
theorem del_not {M : List O} {k : K} (h : k ∉ M.map (·.1)) : del k M = M := by
  unfold del
  refine List.filter_eq_self.2 fun x hx => ?_
  rw [decide_eq_true_eq]
  exact fun e => h (e ▸ List.mem_map_of_mem hx)
theorem del_len (M : List O) (k : K) : (del k M).length ≤ M.length := List.length_filter_le _ _
theorem del_nodup {M : List O} (k : K) (h : (M.map (·.1)).Nodup) : ((del k M).map (·.1)).Nodup := h.sublist (List.filter_sublist.map _)
theorem lin_del (M : List O) (k : K) (i : Nat) : lin (del k M) i = cut k (lin M i) := by
  unfold lin del Hp.cut
  rw [List.filter_map, List.filter_filter, List.filter_filter]
  congr 1
  refine List.filter_congr fun x _ => ?_
  simp [Bool.and_comm]
theorem lin_app (M : List O) (k : K) (p : Nat) (r : Int) (i : Nat) : lin (M ++ [(k, p, r)]) i = if p = i then lin M i ++ [(k, r)] else lin M i := by
  unfold lin
  rw [List.filter_append]
  by_cases h : p = i
  · rw [if_pos h]; simp [h]
  · rw [if_neg h]; simp [h]
theorem lin_perm {M M' : List O} (h : M.Perm M') (i : Nat) : (lin M i).Perm (lin M' i) := (h.filter _).map _
theorem lin_len (M : List O) (i : Nat) : (lin M i).length ≤ M.length := by unfold lin; rw [List.length_map]; exact List.length_filter_le _ _
theorem put_lin {M : List O} {k : K} (p : Nat) (r : Int) (h : k ∉ M.map (·.1)) : (HpE.put k r (lin M p)).Perm (lin (M ++ [(k, p, r)]) p) := by
  rw [lin_app, if_pos rfl]
  have h1 : k ∉ (lin M p).map (·.1) := fun e => by obtain ⟨r', e⟩ := key_lin.1 e; exact h (key_in e)
  unfold HpE.put
  rw [cut_not h1]
  exact (List.perm_append_singleton _ _).symm
/-- the next one -/
def Fst (M : List O) (x : O) : Prop := x ∈ M ∧ ∀ y ∈ M, ah y x = false
theorem Fst.one {M : List O} {x y : O} (h : Fst M x) (k : Fst M y) : x = y := by
  rcases ah_tri x y with e | e | e
  · rw [k.2 x h.1] at e; cases e
  · exact e
  · rw [h.2 y k.1] at e; cases e
theorem Fst.perm {M M' : List O} {x : O} (h : Fst M x) (e : M.Perm M') : Fst M' x := ⟨e.mem_iff.1 h.1, fun y hy => h.2 y (e.mem_iff.2 hy)⟩
theorem Fst.ahead {M : List O} {x y : O} (h : Fst M x) (hy : y ∈ M) (hne : y ≠ x) : ah x y = true := by
  rcases ah_tri x y with e | e | e
  · exact e
  · exact absurd e.symm hne
  · rw [h.2 y hy] at e; cases e
theorem fst_of {M : List O} {i : Nat} {k : K} {r : Int} (hi : ∀ j, j < i → lin M j = []) (h : Lst (lin M i) (k, r)) : Fst M (k, i, r) := by
  refine ⟨mem_lin.1 h.1, fun y hy => ?_⟩
  obtain ⟨k', j, r'⟩ := y
  have hj : i ≤ j := by
    rcases Nat.lt_or_ge j i with e | e
    · have := hi j e
      have h2 := mem_lin.2 hy
      rw [this] at h2
      cases h2
    · exact e
  have hn : ¬ ah (k', j, r') (k, i, r) = true := by
    rw [ah_iff]
    rintro (e | ⟨e, e2⟩)
    · simp only at e; omega
    · simp only at e e2
      subst e
      rw [h.2 _ (mem_lin.2 hy)] at e2
      cases e2
  simpa using hn
/-- laid in -/
def ins (x : O) : List O → List O
  | [] => [x]
  | y :: l => if ah y x then y :: ins x l else x :: y :: l
def srt (M : List O) : List O := M.foldl (fun out x => ins x out) []
theorem ins_at {x : O} {l : List O} {n : Nat} (hn : n ≤ l.length) (h : ∀ j, j < n → ah (el l j) x = true) (h2 : n < l.length → ah (el l n) x = false) : ins x l = l.take n ++ x :: l.drop n := by
  induction l generalizing n with
  | nil => simp [ins]
  | cons y l ih =>
    cases n with
    | zero =>
      have h3 := h2 (by simp)
      have h4 : el (y :: l) 0 = y := rfl
      rw [h4] at h3
      simp [ins, h3]
    | succ n =>
      have h3 := h 0 (by omega)
      have h4 : el (y :: l) 0 = y := rfl
      rw [h4] at h3
      simp only [ins, h3, if_true, List.take_succ_cons, List.drop_succ_cons, List.cons_append]
      rw [ih (by simpa using hn) (fun j hj => h (j + 1) (by omega)) (fun hj => h2 (by simpa using hj))]
theorem ins_perm (x : O) (l : List O) : (ins x l).Perm (x :: l) := by
  induction l with
  | nil => exact List.Perm.refl _
  | cons y l ih =>
    unfold ins
    split
    · exact (ih.cons y).trans (List.Perm.swap x y l)
    · exact List.Perm.refl _
theorem ins_sorted {x : O} {l : List O} (h : l.Pairwise fun a b => ah a b = true) (hx : ∀ y ∈ l, ah y x = true ∨ ah x y = true) : (ins x l).Pairwise fun a b => ah a b = true := by
  induction l with
  | nil => simp [ins]
  | cons y l ih =>
    rw [List.pairwise_cons] at h
    unfold ins
    split
    · rename_i hy
      rw [List.pairwise_cons]
      refine ⟨fun z hz => ?_, ih h.2 fun z hz => hx z (List.mem_cons_of_mem _ hz)⟩
      rcases List.mem_cons.1 ((ins_perm x l).mem_iff.1 hz) with rfl | hz
      · exact hy
      · exact h.1 z hz
    · rename_i hy
      have hxy : ah x y = true := (hx y (List.mem_cons_self ..)).resolve_left hy
      rw [List.pairwise_cons, List.pairwise_cons]
      refine ⟨fun z hz => ?_, h⟩
      rcases List.mem_cons.1 hz with rfl | hz
      · exact hxy
      · exact ah_trans hxy (h.1 z hz)
theorem srt_app (l : List O) (x : O) : srt (l ++ [x]) = ins x (srt l) := by unfold srt; rw [List.foldl_append]; rfl
theorem srt_take {M : List O} {m : Nat} (h : m < M.length) : srt (M.take (m + 1)) = ins (el M m) (srt (M.take m)) := by
  rw [List.take_succ_eq_append_getElem h, srt_app, ← el_eq h]
theorem srt_perm_take (M : List O) (n : Nat) (h : n ≤ M.length) : (srt (M.take n)).Perm (M.take n) := by
  induction n with
  | zero => simp [srt]
  | succ n ih =>
    rw [srt_take (by omega), List.take_succ_eq_append_getElem (by omega), ← el_eq (by omega)]
    exact ((ins_perm _ _).trans ((ih (by omega)).cons _)).trans (List.perm_append_singleton _ _).symm
theorem srt_perm (M : List O) : (srt M).Perm M := by have := srt_perm_take M M.length (Nat.le_refl _); simpa using this
theorem srt_sorted_take {M : List O} (hn : (M.map (·.1)).Nodup) (n : Nat) (h : n ≤ M.length) : (srt (M.take n)).Pairwise fun a b => ah a b = true := by
  induction n with
  | zero => simp [srt]
  | succ n ih =>
    rw [srt_take (by omega)]
    refine ins_sorted (ih (by omega)) fun y hy => ?_
    have h1 := (srt_perm_take M n (by omega)).mem_iff.1 hy
    obtain ⟨j, hj, rfl⟩ := mem_el h1
    rw [List.length_take] at hj
    rw [el_take M (by omega)]
    rcases ah_tri (el M j) (el M n) with e | e | e
    · exact .inl e
    · exfalso
      have h2 : j = n := by
        have h3 := (List.getElem?_inj (i := j) (j := n) (by rw [List.length_map]; omega) hn).1 (by
          rw [List.getElem?_map, List.getElem?_map, el_get (by omega), el_get (by omega), e])
        exact h3
      omega
    · exact .inr e
theorem srt_sorted {M : List O} (hn : (M.map (·.1)).Nodup) : (srt M).Pairwise fun a b => ah a b = true := by have := srt_sorted_take hn M.length (Nat.le_refl _); simpa using this
theorem srt_len (M : List O) : (srt M).length = M.length := (srt_perm M).length_eq
/-- one row only that is in order -/
theorem sorted_one {a b : List O} (h : a.Perm b) (ha : a.Pairwise fun x y => ah x y = true) (hb : b.Pairwise fun x y => ah x y = true) : a = b := by
  induction a generalizing b with
  | nil => exact h.nil_eq
  | cons x l ih =>
    cases b with
    | nil => exact absurd h.length_eq (by simp)
    | cons y m =>
      rw [List.pairwise_cons] at ha hb
      have e : x = y := by
        rcases List.mem_cons.1 (h.mem_iff.1 (List.mem_cons_self ..)) with e | e
        · exact e
        · rcases List.mem_cons.1 (h.mem_iff.2 (List.mem_cons_self (a := y))) with e2 | e2
          · exact e2.symm
          · have h1 := hb.1 x e
            have h2 := ah_asym (ha.1 y e2)
            rw [h1] at h2; cases h2
      subst e
      rw [ih h.cons_inv ha.2 hb.2]
theorem srt_fst {M : List O} (hn : (M.map (·.1)).Nodup) (h : M ≠ []) : Fst M (el (srt M) 0) := by
  have h1 := srt_sorted hn
  have hl : 0 < (srt M).length := by rw [srt_len]; exact List.length_pos_iff.2 h
  refine Fst.perm (M := srt M) ?_ (srt_perm M)
  cases e : srt M with
  | nil => rw [e] at hl; simp at hl
  | cons x l =>
    rw [e, List.pairwise_cons] at h1
    refine ⟨List.mem_cons_self .., fun y hy => ?_⟩
    show ah y x = false
    rcases List.mem_cons.1 hy with rfl | hy
    · exact ah_irrefl _
    · exact ah_asym (h1.1 y hy)
/-- line by line -/
def lab (i : Nat) (l : List (K × Int)) : List O := l.map fun x => (x.1, i, x.2)
def upto (f : Nat → List (K × Int)) : Nat → List O
  | 0 => []
  | n + 1 => upto f n ++ lab n (f n)
theorem lab_lin (M : List O) (i : Nat) : lab i (lin M i) = M.filter fun x => decide (x.2.1 = i) := by
  unfold lab lin
  rw [List.map_map]
  have : ∀ l : List O, (∀ x ∈ l, x.2.1 = i) → l.map ((fun x : K × Int => ((x.1, i, x.2) : O)) ∘ fun x : O => (x.1, x.2.2)) = l := by
    intro l hl
    induction l with
    | nil => rfl
    | cons x l ih =>
      rw [List.map_cons, ih fun y hy => hl y (List.mem_cons_of_mem _ hy)]
      have := hl x (List.mem_cons_self ..)
      obtain ⟨a, b, c⟩ := x
      simp only at this
      subst this
      rfl
  exact this _ fun x hx => by have := (List.mem_filter.1 hx).2; simpa using this
theorem split_perm (M : List O) (n : Nat) : (M.filter fun x => decide (x.2.1 < n + 1)).Perm ((M.filter fun x => decide (x.2.1 < n)) ++ M.filter fun x => decide (x.2.1 = n)) := by
  induction M with
  | nil => exact List.Perm.refl _
  | cons x l ih =>
    rcases Nat.lt_trichotomy x.2.1 n with h | h | h
    · rw [List.filter_cons_of_pos (by simp; omega), List.filter_cons_of_pos (by simp; omega), List.filter_cons_of_neg (by simp; omega)]
      exact ih.cons x
    · rw [List.filter_cons_of_pos (by simp; omega), List.filter_cons_of_neg (by simp; omega), List.filter_cons_of_pos (by simp; omega)]
      exact (ih.cons x).trans List.perm_middle.symm
    · rw [List.filter_cons_of_neg (by simp; omega), List.filter_cons_of_neg (by simp; omega), List.filter_cons_of_neg (by simp; omega)]
      exact ih
theorem upto_perm {M : List O} {f : Nat → List (K × Int)} (n : Nat) (h : ∀ i, i < n → (f i).Perm (lin M i)) : (upto f n).Perm (M.filter fun x => decide (x.2.1 < n)) := by
  induction n with
  | zero => simp [upto]
  | succ n ih =>
    refine List.Perm.trans ?_ (split_perm M n).symm
    unfold upto
    refine (ih fun i hi => h i (by omega)).append ?_
    rw [← lab_lin]
    exact (h n (by omega)).map _
theorem upto_pri {f : Nat → List (K × Int)} {n : Nat} : ∀ x ∈ upto f n, x.2.1 < n := by
  induction n with
  | zero => intro x hx; cases hx
  | succ n ih =>
    intro x hx
    unfold upto at hx
    rcases List.mem_append.1 hx with hx | hx
    · have := ih x hx; omega
    · obtain ⟨y, _, rfl⟩ := List.mem_map.1 hx
      simp
theorem lab_sorted {l : List (K × Int)} (i : Nat) (hs : ∀ a b, a < b → b < l.length → ltp (el l b) (el l a) = false) (hn : (l.map (·.1)).Nodup) : (lab i l).Pairwise fun a b => ah a b = true := by
  unfold lab
  rw [List.pairwise_map, List.pairwise_iff_getElem]
  intro a b ha hb hab
  rw [ah_iff]
  refine .inr ⟨rfl, ?_⟩
  have h1 := hs a b hab hb
  rw [el_eq ha, el_eq hb] at h1
  rcases ltp_tri tot_str l[a] l[b] with e | e | e
  · exact e
  · exfalso
    have := (List.getElem?_inj (i := a) (j := b) (by rw [List.length_map]; omega) hn).1 (by
      rw [List.getElem?_map, List.getElem?_map, List.getElem?_eq_getElem ha, List.getElem?_eq_getElem hb, e])
    omega
  · rw [h1] at e; cases e
theorem upto_sorted {M : List O} {f : Nat → List (K × Int)} (n : Nat) (h : ∀ i, i < n → (f i).Perm (lin M i)) (hs : ∀ i, i < n → ∀ a b, a < b → b < (f i).length → ltp (el (f i) b) (el (f i) a) = false) (hn : (M.map (·.1)).Nodup) :
    (upto f n).Pairwise fun a b => ah a b = true := by
  induction n with
  | zero => simp [upto]
  | succ n ih =>
    unfold upto
    rw [List.pairwise_append]
    refine ⟨ih (fun i hi => h i (by omega)) (fun i hi => hs i (by omega)), lab_sorted n (hs n (by omega)) ?_, fun x hx y hy => ?_⟩
    · refine ((h n (by omega)).map _).nodup_iff.2 ?_
      unfold lin
      rw [List.map_map]
      exact hn.sublist (List.filter_sublist.map _)
    · obtain ⟨z, _, rfl⟩ := List.mem_map.1 hy
      rw [ah_iff]
      exact .inl (by have := upto_pri x hx; simpa using this)
/-- line by line all are told, the next one first -/
theorem upto_srt {M : List O} {f : Nat → List (K × Int)} (hp : ∀ x ∈ M, x.2.1 < 4) (h : ∀ i, i < 4 → (f i).Perm (lin M i)) (hs : ∀ i, i < 4 → ∀ a b, a < b → b < (f i).length → ltp (el (f i) b) (el (f i) a) = false) (hn : (M.map (·.1)).Nodup) : upto f 4 = srt M := by
  refine sorted_one ?_ (upto_sorted 4 h hs hn) (srt_sorted hn)
  refine ((upto_perm 4 h).trans ?_).trans (srt_perm M).symm
  exact List.Perm.of_eq (List.filter_eq_self.2 fun x hx => by simpa using hp x hx)
end Go.Proofs.YtcodjknhnhdkfaaGreatDoor.Nx
