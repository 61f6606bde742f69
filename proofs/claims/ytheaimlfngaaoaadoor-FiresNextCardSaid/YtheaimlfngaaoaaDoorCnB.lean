
/- plain mathematics: an expression's text is parsed to it -/
import Derived.Test.YtheaimlfngaaoaaDoorCnT
import Derived.Test.YtheaimlfngaaoaaDoorCn10
namespace Go.Proofs.YtheaimlfngaaoaaDoor.Cn
open Go.RowKit Go.Lib
set_option linter.unusedVariables false

theorem sp_join {c : UInt8} : ∀ {ps : List L}, ps ≠ [] → (∀ p ∈ ps, c ∉ p) → sp c (join ps [c]) = ps
  | [], h, _ => absurd rfl h
  | [p], _, h => by rw [join_one]; exact sp_free (h p List.mem_cons_self)
  | p :: q :: ps, _, h => by
    have ih := sp_join (c := c) (ps := q :: ps) (by simp) fun x hx => h x (List.mem_cons_of_mem _ hx)
    have e : join (p :: q :: ps) [c] = p ++ c :: join (q :: ps) [c] := by
      rw [join_cons, join_cons]
      unfold joinTail
      simp
    rw [e, sp_app, ih, sp_free (h p List.mem_cons_self)]; rfl
theorem isD_dec {k : Nat} (h : k < 10) : isD (UInt8.ofNat (48 + k)) = true ∧ (UInt8.ofNat (48 + k)).toNat - 48 = k := by
  have e : (UInt8.ofNat (48 + k)).toNat = 48 + k := by rw [UInt8.toNat_ofNat']; omega
  unfold isD
  rw [e]
  simp; omega
theorem dec_dig {j : Nat} (h : j < 64) : ∀ b ∈ decDigits j, isD b = true := by
  intro b hb
  by_cases h1 : j < 10
  · rw [decDigits_one h1] at hb
    rw [List.mem_singleton.1 hb]; exact (isD_dec h1).1
  · rw [decDigits_two h1 (by omega)] at hb
    rcases List.mem_cons.1 hb with rfl | hb
    · exact (isD_dec (by omega)).1
    · rw [List.mem_singleton.1 hb]; exact (isD_dec (by omega)).1
theorem dg_dec {j : Nat} (h : j < 64) : dgT (decDigits j) = (j, true) := by
  by_cases h1 : j < 10
  · rw [decDigits_one h1]
    obtain ⟨a, b⟩ := isD_dec h1
    show (if isD (UInt8.ofNat (48 + j)) = true then ((UInt8.ofNat (48 + j)).toNat - 48, true) else (0, false)) = _
    rw [a, b]; rfl
  · rw [decDigits_two h1 (by omega)]
    obtain ⟨a, b⟩ := isD_dec (k := j / 10) (by omega)
    obtain ⟨c, d⟩ := isD_dec (k := j % 10) (by omega)
    show (if (isD (UInt8.ofNat (48 + j / 10)) && isD (UInt8.ofNat (48 + j % 10))) = true then (10 * ((UInt8.ofNat (48 + j / 10)).toNat - 48) + ((UInt8.ofNat (48 + j % 10)).toNat - 48), true) else (0, false)) = _
    rw [a, b, c, d]
    simp; omega
theorem num_dec (f : Fd) {j : Nat} (h : j < 64) : numT f (decDigits j) = (j, true) := by
  rw [numT_none (nmI_len (by have := dec_len h; omega)), dg_dec h]
theorem read_dec (f : Fd) {j : Nat} (h : j < 64) : readT f (decDigits j) = ((j, j, 1), true) := read_num (num_dec f h)
theorem err_dec {f : Fd} {j : Nat} (h : j < 64) (h1 : f.lo ≤ j) (h2 : j ≤ f.hi) : errP f (decDigits j) = 0 := by
  unfold errP mayB
  rw [read_dec f h, if_pos rfl, if_pos (by simp [h1, h2])]
theorem read_star (f : Fd) (hf : FOk f) : readT f [42] = ((f.lo, f.hi, 1), true) := by
  have h1 : numT f [42] = (0, false) := by rw [numT_none (nmI_len (by decide))]; decide
  have h2 : ct 47 [42] = ([42], [], false) := by decide
  rw [read_no h1 h2 (span_star f)]; rfl
theorem err_star (f : Fd) (hf : FOk f) : errP f [42] = 0 := by
  unfold errP mayB
  rw [read_star f hf, if_pos rfl, if_pos (by have := hf.lh; simp; exact this)]
theorem star_back (i : Nat) : errF (fds i) (sp 44 [42]) = 0 ∧ fv i [42] = allM i := by
  have e : sp 44 [42] = [[42]] := by decide
  refine ⟨?_, ?_⟩
  · rw [e, errF, err_star _ (fds_ok i), if_pos rfl]; rfl
  · unfold fv allM
    rw [e]
    refine mk_congr fun x _ => ?_
    unfold setF
    rw [List.any_cons, List.any_nil, Bool.or_false, read_star _ (fds_ok i)]
theorem comma_dec {j : Nat} (h : j < 64) : (44 : UInt8) ∉ decDigits j := fun hm => by have := dec_dig h _ hm; revert this; decide
theorem blank_dec {j : Nat} (h : j < 64) : (32 : UInt8) ∉ decDigits j := fun hm => by have := dec_dig h _ hm; revert this; decide
theorem bitsL_ne {n : Nat} (h0 : n ≠ 0) (hn : n < 18446744073709551616) : bitsL n ≠ [] := by
  intro h
  refine h0 ?_
  rw [nat_mk hn]
  refine mk_none fun x => ?_
  by_cases hx : x < 64
  · cases e : n.testBit x with
    | false => rfl
    | true => have := mem_bel.2 ⟨hx, e⟩; rw [show bel n 64 = [] from h] at this; cases this
  · exact Nat.testBit_lt_two_pow (Nat.lt_of_lt_of_le hn (show 2 ^ 64 ≤ 2 ^ x from Nat.pow_le_pow_right (by decide) (by omega)))
theorem sp_list {n : Nat} (h0 : n ≠ 0) (hn : n < 18446744073709551616) : sp 44 (listT n) = (bitsL n).map decDigits := by
  unfold listT
  rw [if_neg h0]
  refine sp_join (by simpa using bitsL_ne h0 hn) fun p hp => ?_
  obtain ⟨j, hj, rfl⟩ := List.mem_map.1 hp
  exact comma_dec (mem_bel.1 hj).1
theorem list_back (i : Nat) {n : Nat} (h0 : n ≠ 0) (hn : n < 18446744073709551616) (hb : ∀ j, n.testBit j = true → (fds i).lo ≤ j ∧ j ≤ (fds i).hi) :
    errF (fds i) (sp 44 (listT n)) = 0 ∧ ∀ x, x < 64 → setF (fds i) (sp 44 (listT n)) x = n.testBit x := by
  rw [sp_list h0 hn]
  refine ⟨errF_ok fun p hp => ?_, fun x hx => ?_⟩
  · obtain ⟨j, hj, rfl⟩ := List.mem_map.1 hp
    obtain ⟨h1, h2⟩ := mem_bel.1 hj
    exact err_dec h1 (hb j h2).1 (hb j h2).2
  · rw [Bool.eq_iff_iff]
    unfold setF
    rw [List.any_eq_true]
    constructor
    · rintro ⟨p, hp, h⟩
      obtain ⟨j, hj, rfl⟩ := List.mem_map.1 hp
      obtain ⟨h1, h2⟩ := mem_bel.1 hj
      rw [read_dec _ h1] at h
      simp [inP] at h
      obtain rfl : x = j := by omega
      exact h2
    · intro h
      refine ⟨decDigits x, List.mem_map.2 ⟨x, mem_bel.2 ⟨hx, h⟩, rfl⟩, ?_⟩
      rw [read_dec _ hx]
      simp [inP]
theorem list_star {n : Nat} (h0 : n ≠ 0) (hn : n < 18446744073709551616) : listT n ≠ [42] := by
  intro h
  have h1 := sp_list h0 hn
  rw [h, show sp 44 [42] = [[42]] by decide] at h1
  have h2 : ([42] : L) ∈ (bitsL n).map decDigits := by rw [← h1]; exact List.mem_cons_self
  obtain ⟨j, hj, e⟩ := List.mem_map.1 h2
  have := dec_dig (mem_bel.1 hj).1 42 (by rw [e]; exact List.mem_cons_self)
  revert this; decide
theorem blank_join : ∀ {ps : List L}, (∀ p ∈ ps, (32 : UInt8) ∉ p) → (32 : UInt8) ∉ join ps [44]
  | [], _ => by simp [join_nil]
  | p :: ps, h => by
    rw [join_cons, List.mem_append, not_or]
    refine ⟨h p List.mem_cons_self, ?_⟩
    unfold joinTail
    rw [List.mem_flatten]
    rintro ⟨l, hl, hm⟩
    obtain ⟨q, hq, rfl⟩ := List.mem_map.1 hl
    rcases List.mem_append.1 hm with hm | hm
    · simp at hm
    · exact h q (List.mem_cons_of_mem _ hq) hm
theorem blank_text (n : Nat) (s : Bool) : (32 : UInt8) ∉ textT n s := by
  unfold textT listT
  split
  · decide
  · split
    · decide
    · refine blank_join fun p hp => ?_
      obtain ⟨j, hj, rfl⟩ := List.mem_map.1 hp
      exact blank_dec (mem_bel.1 hj).1
theorem sp_text (e : Ex) : sp 32 (exT e) = [textT e.a (decide (e.a = allM 0)), textT e.b (decide (e.b = allM 1)), textT e.c e.x, textT e.d (decide (e.d = allM 3)), textT e.e e.y] := by
  refine sp_join (by simp) fun p hp => ?_
  simp only [List.mem_cons, List.not_mem_nil, or_false] at hp
  rcases hp with rfl | rfl | rfl | rfl | rfl <;> exact blank_text _ _
/-- the values of a field that is right -/
theorem field_in {f : Fd} {ps : List L} (h : errF f ps = 0) : ∀ p ∈ ps, errP f p = 0 := by
  induction ps with
  | nil => intro p hp; cases hp
  | cons q ps ih =>
    rw [errF] at h
    by_cases hq : errP f q = 0
    · rw [if_pos hq] at h
      intro p hp
      rcases List.mem_cons.1 hp with rfl | hp
      · exact hq
      · exact ih h p hp
    · rw [if_neg hq] at h; exact absurd h hq
theorem part_in {f : Fd} {p : L} (h : errP f p = 0) : f.lo ≤ (readT f p).1.1 ∧ (readT f p).1.1 ≤ (readT f p).1.2.1 ∧ (readT f p).1.2.1 ≤ f.hi ∧ 1 ≤ (readT f p).1.2.2 := by
  unfold errP at h
  split at h
  · split at h
    · rename_i hm
      unfold mayB at hm
      simp only [Bool.and_eq_true, decide_eq_true_eq] at hm
      exact ⟨hm.1.1.1.1, hm.1.1.1.2, hm.1.1.2, hm.1.2⟩
    · cases h
  · cases h
theorem set_in {f : Fd} {ps : List L} (h : errF f ps = 0) {x : Nat} (hx : setF f ps x = true) : f.lo ≤ x ∧ x ≤ f.hi := by
  unfold setF at hx
  obtain ⟨p, hp, h2⟩ := List.any_eq_true.1 hx
  obtain ⟨h3, h4, h5, h6⟩ := part_in (field_in h p hp)
  simp only [inP, Bool.and_eq_true, decide_eq_true_eq] at h2
  omega
theorem set_some {f : Fd} {t : L} (h : errF f (sp 44 t) = 0) : ∃ x, setF f (sp 44 t) x = true := by
  obtain ⟨p, ps, e⟩ := sp_cons 44 t
  rw [e] at h ⊢
  obtain ⟨h3, h4, h5, h6⟩ := part_in (field_in h p List.mem_cons_self)
  refine ⟨(readT f p).1.1, ?_⟩
  unfold setF
  rw [List.any_cons, Bool.or_eq_true]
  left
  simp [inP, h4]
theorem fv_in {i : Nat} {t : L} (h : errF (fds i) (sp 44 t) = 0) : fv i t ≠ 0 ∧ fv i t < 18446744073709551616 ∧ ∀ j, (fv i t).testBit j = true → (fds i).lo ≤ j ∧ j ≤ (fds i).hi := by
  have hh := (fds_ok i).hi
  refine ⟨fun h0 => ?_, mk_lt _, fun j hj => ?_⟩
  · obtain ⟨x, hx⟩ := set_some h
    have hx2 := set_in h hx
    have := mk_bit (setF (fds i) (sp 44 t)) x
    rw [show mk (setF (fds i) (sp 44 t)) = 0 from h0, Nat.zero_testBit, hx] at this
    simp at this
    omega
  · rw [show fv i t = mk (setF (fds i) (sp 44 t)) from rfl, mk_bit, Bool.and_eq_true] at hj
    exact set_in h hj.2
/-- of a field (but weekdays) the text of its values is read as them -/
theorem text_back {i : Nat} {t : L} (h : errF (fds i) (sp 44 t) = 0) {s : Bool} (hs : s = true → fv i t = allM i) :
    errF (fds i) (sp 44 (textT (fv i t) s)) = 0 ∧ fv i (textT (fv i t) s) = fv i t ∧ (s = false → textT (fv i t) s ≠ [42]) := by
  obtain ⟨h0, hn, hb⟩ := fv_in h
  cases s with
  | true =>
    obtain ⟨a, b⟩ := star_back i
    refine ⟨a, ?_, fun h => by cases h⟩
    show fv i [42] = _
    rw [b, hs rfl]
  | false =>
    obtain ⟨a, b⟩ := list_back i h0 hn hb
    refine ⟨a, ?_, fun _ => list_star h0 hn⟩
    show mk _ = _
    conv => rhs; rw [nat_mk hn]
    exact mk_congr b
theorem fold_in {p : Nat → Bool} (hp : ∀ x, p x = true → x ≤ 7) : ∀ j, (mk (fold p)).testBit j = true → 0 ≤ j ∧ j ≤ 6 := by
  intro j hj
  rw [mk_bit, Bool.and_eq_true] at hj
  have h2 := hj.2
  unfold fold at h2
  simp only [Bool.or_eq_true, Bool.and_eq_true, Bool.not_eq_true', decide_eq_false_iff_not, decide_eq_true_eq] at h2
  rcases h2 with ⟨h3, h4⟩ | ⟨h3, h4⟩
  · have := hp j h3; omega
  · omega
theorem fold_ne {p : Nat → Bool} {x : Nat} (hx : p x = true) (h7 : x ≤ 7) : mk (fold p) ≠ 0 := by
  intro h0
  have key : ∀ y, y < 64 → fold p y = true → False := fun y hy hf => by
    have := mk_bit (fold p) y
    rw [h0, Nat.zero_testBit, hf] at this
    simp at this; omega
  by_cases h : x = 7
  · subst h; exact key 0 (by decide) (by unfold fold; rw [hx]; simp)
  · exact key x (by omega) (by unfold fold; rw [hx]; simp [h])
/-- .. of weekdays -/
theorem text_back4 {t : L} (h : errF (fds 4) (sp 44 t) = 0) {s : Bool} (hs : s = decide (t = [42])) :
    errF (fds 4) (sp 44 (textT (mk (fold (setF (fds 4) (sp 44 t)))) s)) = 0 ∧ mk (fold (setF (fds 4) (sp 44 (textT (mk (fold (setF (fds 4) (sp 44 t)))) s)))) = mk (fold (setF (fds 4) (sp 44 t))) ∧
      (s = false → textT (mk (fold (setF (fds 4) (sp 44 t)))) s ≠ [42]) := by
  obtain ⟨x, hx⟩ := set_some h
  have h7 : ∀ x, setF (fds 4) (sp 44 t) x = true → x ≤ 7 := fun x hx => (set_in h hx).2
  have hb := fold_in h7
  have h0 := fold_ne hx (h7 x hx)
  cases s with
  | true =>
    have ht : t = [42] := of_decide_eq_true hs.symm
    refine ⟨(star_back 4).1, ?_, fun h => by cases h⟩
    show mk (fold (setF (fds 4) (sp 44 [42]))) = _
    rw [ht]
  | false =>
    obtain ⟨a, b⟩ := list_back 4 h0 (mk_lt _) fun j hj => by have := hb j hj; exact ⟨Nat.zero_le _, by show j ≤ 7; omega⟩
    refine ⟨a, ?_, fun _ => list_star h0 (mk_lt _)⟩
    show mk (fold (setF (fds 4) (sp 44 (listT (mk (fold (setF (fds 4) (sp 44 t)))))))) = _
    conv => rhs; rw [nat_mk (mk_lt (fold (setF (fds 4) (sp 44 t))))]
    generalize mk (fold (setF (fds 4) (sp 44 t))) = n at hb b h0
    refine mk_congr fun y hy => ?_
    have b7 : setF (fds 4) (sp 44 (listT n)) 7 = false := by
      rw [b 7 (by decide)]
      cases e : n.testBit 7 with
      | false => rfl
      | true => have := (hb 7 e).2; omega
    unfold fold
    rw [b7, b y hy, Bool.and_false, Bool.or_false]
    cases e : n.testBit y with
    | false => rfl
    | true => have := (hb y e).2; simp; omega
theorem five_of {α : Type} {l : List α} (h : l.length = 5) : ∃ a b c d e, l = [a, b, c, d, e] := by
  match l, h with
  | [a, b, c, d, e], _ => exact ⟨a, b, c, d, e, rfl⟩
theorem exOf_five (a b c d e : L) : exOf [a, b, c, d, e] = ⟨fv 0 a, fv 1 b, fv 2 c, fv 3 d, mk (fold (setF (fds 4) (sp 44 e))), decide (c = [42]), decide (e = [42])⟩ := rfl
theorem len_five (a b c d e : L) : [a, b, c, d, e].length = 5 := rfl
theorem back {s : L} (h : parseE s = 0) (hl : (exT (parseV s)).length ≤ 128) : parseE (exT (parseV s)) = 0 ∧ parseV (exT (parseV s)) = parseV s := by
  have hV : parseV s = exOf (sp 32 s) := by unfold parseV; rw [if_pos h]
  have hP := h
  unfold parseE at hP
  have h128 : ¬ 128 < s.length := fun x => by rw [if_pos x] at hP; cases hP
  rw [if_neg h128] at hP
  have h5 : (sp 32 s).length = 5 := Decidable.byContradiction fun x => by rw [if_neg x] at hP; cases hP
  rw [if_pos h5] at hP
  obtain ⟨t0, t1, t2, t3, t4, e5⟩ := five_of h5
  rw [e5] at hV hP
  simp only [errs] at hP
  have q0 : errF (fds 0) (sp 44 t0) = 0 := by split at hP <;> assumption
  rw [if_pos q0] at hP
  have q1 : errF (fds 1) (sp 44 t1) = 0 := by split at hP <;> assumption
  rw [if_pos q1] at hP
  have q2 : errF (fds 2) (sp 44 t2) = 0 := by split at hP <;> assumption
  rw [if_pos q2] at hP
  have q3 : errF (fds 3) (sp 44 t3) = 0 := by split at hP <;> assumption
  rw [if_pos q3] at hP
  have q4 : errF (fds 4) (sp 44 t4) = 0 := by split at hP <;> assumption
  have hex : exOf [t0, t1, t2, t3, t4] = ⟨fv 0 t0, fv 1 t1, fv 2 t2, fv 3 t3, mk (fold (setF (fds 4) (sp 44 t4))), decide (t2 = [42]), decide (t4 = [42])⟩ := rfl
  rw [hex] at hV
  obtain ⟨a0, b0, _⟩ := text_back q0 (s := decide (fv 0 t0 = allM 0)) fun h => of_decide_eq_true h
  obtain ⟨a1, b1, _⟩ := text_back q1 (s := decide (fv 1 t1 = allM 1)) fun h => of_decide_eq_true h
  obtain ⟨a2, b2, c2⟩ := text_back q2 (s := decide (t2 = [42])) fun h => by rw [of_decide_eq_true h]; exact (star_back 2).2
  obtain ⟨a3, b3, _⟩ := text_back q3 (s := decide (fv 3 t3 = allM 3)) fun h => of_decide_eq_true h
  obtain ⟨a4, b4, c4⟩ := text_back4 q4 (s := decide (t4 = [42])) rfl
  have hsp := sp_text (parseV s)
  rw [hV] at hl hsp ⊢
  dsimp only at hsp
  have hE : parseE (exT ⟨fv 0 t0, fv 1 t1, fv 2 t2, fv 3 t3, mk (fold (setF (fds 4) (sp 44 t4))), decide (t2 = [42]), decide (t4 = [42])⟩) = 0 := by
    unfold parseE
    rw [if_neg (by omega), hsp, if_pos (len_five _ _ _ _ _)]
    simp only [errs]
    rw [if_pos a0, if_pos a1, if_pos a2, if_pos a3, if_pos a4]
  refine ⟨hE, ?_⟩
  unfold parseV
  rw [if_pos hE, hsp]
  rw [exOf_five]
  rw [b0, b1, b2, b3, b4]
  have x2 : ∀ (n : Nat) (s : Bool), (s = false → textT n s ≠ [42]) → decide (textT n s = [42]) = s := fun n s h => by
    cases s with
    | true => exact decide_eq_true rfl
    | false => exact decide_eq_false (h rfl)
  rw [x2 _ _ c2, x2 _ _ c4]
end Go.Proofs.YtheaimlfngaaoaaDoor.Cn
