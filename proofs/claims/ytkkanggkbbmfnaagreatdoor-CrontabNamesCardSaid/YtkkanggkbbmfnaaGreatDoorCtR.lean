
/- cron: the document of chapter 7, walked, right and wrong -/
import Derived.Test.YtkkanggkbbmfnaaGreatDoorCn9
import Derived.Test.YtkkanggkbbmfnaaGreatDoorCnT
import Derived.Test.YtkkanggkbbmfnaaGreatDoorCnY
import Derived.Maps.OwnOps
import Derived.Maps.Views
import Derived.Maps.AppendAt
/- expressions: CronLists' walk -/
namespace Go.Proofs.YtkkanggkbbmfnaaGreatDoor.Cn
open Go.RowKit Go.Lib Go.Proofs.YtkkanggkbbmfnaaGreatDoor.Ht
set_option linter.unusedVariables false

theorem str_app (a b : L) : (⟨a.toArray⟩ : ByteArray) ++ ⟨b.toArray⟩ = ⟨(a ++ b).toArray⟩ := by apply ByteArray.ext; simp
theorem errF_append (f : Fd) : ∀ (ps qs : List L), errF f (ps ++ qs) = if errF f ps = 0 then errF f qs else errF f ps
  | [], qs => by rw [List.nil_append, errF, if_pos rfl]
  | p :: ps, qs => by
    have ih := errF_append f ps qs
    rw [List.cons_append, errF, errF]
    by_cases h : errP f p = 0
    · rw [if_pos h, if_pos h, ih]
    · rw [if_neg h, if_neg h, if_neg h]
theorem parseE_cons {a r : L} (ha : (32 : UInt8) ∉ a) (hl : a.length + 1 + r.length ≤ 128) :
    parseE (a ++ 32 :: r) = if (sp 32 r).length = 4 then (if errF (fds 0) (sp 44 a) = 0 then errs 1 (sp 32 r) else errF (fds 0) (sp 44 a)) else 2 := by
  have e1 : sp 32 (a ++ 32 :: r) = a :: sp 32 r := by rw [sp_app, sp_free ha]; rfl
  unfold parseE
  rw [if_neg (by rw [List.length_append, List.length_cons]; omega), e1, List.length_cons]
  by_cases h : (sp 32 r).length = 4
  · rw [if_pos h, if_pos (by omega)]; rfl
  · rw [if_neg h, if_neg (by omega)]
theorem exOf_cons (a : L) (R : List L) : exOf (a :: R) = ⟨mk (setF (fds 0) (sp 44 a)), fv 1 (R.getD 0 []), fv 2 (R.getD 1 []), fv 3 (R.getD 2 []), mk (fold (setF (fds 4) (sp 44 (R.getD 3 [])))), decide (R.getD 1 [] = [42]), decide (R.getD 3 [] = [42])⟩ := rfl
theorem parseV_cons {a r : L} (ha : (32 : UInt8) ∉ a) (h : parseE (a ++ 32 :: r) = 0) : parseV (a ++ 32 :: r) = exOf (a :: sp 32 r) := by
  unfold parseV
  rw [if_pos h, sp_app, sp_free ha]; rfl
theorem setF_append (f : Fd) (ps qs : List L) : mk (setF f (ps ++ qs)) = mk (setF f ps) ||| mk (setF f qs) := by
  rw [mk_or]
  refine mk_congr fun x _ => ?_
  unfold setF
  rw [List.any_append]
theorem hb_or (n m : Nat) (x : Int) : hb (n ||| m) x = (hb n x || hb m x) := by
  unfold hb
  rw [Nat.testBit_or]
  cases decide (0 ≤ x) <;> rfl
theorem names_or (a b c d e f : Nat) (x y : Bool) (mo dd wd h mi : Int) :
    namesB ⟨a ||| b, c, d, e, f, x, y⟩ mo dd wd h mi = (namesB ⟨a, c, d, e, f, x, y⟩ mo dd wd h mi || namesB ⟨b, c, d, e, f, x, y⟩ mo dd wd h mi) := by
  unfold namesB
  dsimp only
  rw [hb_or]
  generalize (hb c h && (hb e mo && if (x || y) = true then hb d dd && hb f wd else hb d dd || hb f wd)) = Z
  cases hb a mi <;> cases hb b mi <;> cases Z <;> rfl
/-- what a list of two comes to -/
structure Lst (a b r : L) : Prop where
  bad : parseE (a ++ 32 :: r) ≠ 0 ∨ parseE (b ++ 32 :: r) ≠ 0 → parseE ((a ++ 44 :: b) ++ 32 :: r) ≠ 0
  good : parseE (a ++ 32 :: r) = 0 → parseE (b ++ 32 :: r) = 0 → parseE ((a ++ 44 :: b) ++ 32 :: r) = 0
  min : parseE (a ++ 32 :: r) = 0 → parseE (b ++ 32 :: r) = 0 → (parseV ((a ++ 44 :: b) ++ 32 :: r)).a = (parseV (a ++ 32 :: r)).a ||| (parseV (b ++ 32 :: r)).a
  tick : parseE (a ++ 32 :: r) = 0 → parseE (b ++ 32 :: r) = 0 → ∀ (t : Int) (x y z : Bool), AtIs (parseV (a ++ 32 :: r)) t x → AtIs (parseV (b ++ 32 :: r)) t y → AtIs (parseV ((a ++ 44 :: b) ++ 32 :: r)) t z → z = (x || y)
theorem lst {a b r : L} (ha : (32 : UInt8) ∉ a) (hb : (32 : UInt8) ∉ b) (la : a.length ≤ 20) (lb : b.length ≤ 20) (lr : r.length ≤ 60) : Lst a b r := by
  have hab : (32 : UInt8) ∉ a ++ 44 :: b := by
    rw [List.mem_append, List.mem_cons, not_or, not_or]; exact ⟨ha, by decide, hb⟩
  have ea := parseE_cons (r := r) ha (by omega)
  have eb := parseE_cons (r := r) hb (by omega)
  have eab := parseE_cons (r := r) hab (by rw [List.length_append, List.length_cons]; omega)
  rw [sp_app, errF_append] at eab
  have good : parseE (a ++ 32 :: r) = 0 → parseE (b ++ 32 :: r) = 0 → parseE ((a ++ 44 :: b) ++ 32 :: r) = 0 := by
    intro h1 h2
    rw [ea] at h1; rw [eb] at h2; rw [eab]
    split at h1
    · rename_i hR
      rw [if_pos hR] at h2 ⊢
      split at h1
      · rename_i h3
        split at h2
        · rename_i h4
          rw [if_pos h3, if_pos h4]; exact h2
        · omega
      · omega
    · omega
  refine ⟨?_, good, ?_, ?_⟩
  · intro h3 h4
    rw [eab] at h4
    rw [ea, eb] at h3
    split at h4
    · rename_i hR
      rw [if_pos hR, if_pos hR] at h3
      by_cases h5 : errF (fds 0) (sp 44 a) = 0
      · rw [if_pos h5] at h4 h3
        by_cases h6 : errF (fds 0) (sp 44 b) = 0
        · rw [if_pos h6] at h4 h3; omega
        · rw [if_neg h6] at h4; omega
      · rw [if_neg h5, if_neg h5] at h4; omega
    · omega
  · intro h1 h2
    rw [parseV_cons hab (good h1 h2), parseV_cons ha h1, parseV_cons hb h2, exOf_cons, exOf_cons, exOf_cons, sp_app]
    exact setF_append _ _ _
  · intro h1 h2 t x y z
    rw [parseV_cons hab (good h1 h2), parseV_cons ha h1, parseV_cons hb h2, exOf_cons, exOf_cons, exOf_cons, sp_app, setF_append]
    rintro (⟨o1, rfl⟩ | ⟨o1, y1, mo, d, wd, hh, mi, hi, rfl⟩) (⟨o2, rfl⟩ | ⟨o2, y2, mo2, d2, wd2, hh2, mi2, hj, rfl⟩) (⟨o3, rfl⟩ | ⟨o3, y3, mo3, d3, wd3, hh3, mi3, hk, rfl⟩)
    all_goals first | omega | skip
    · rfl
    · obtain ⟨rfl, rfl, rfl, rfl, rfl, rfl⟩ := hi.same hj
      obtain ⟨rfl, rfl, rfl, rfl, rfl, rfl⟩ := hi.same hk
      exact names_or _ _ _ _ _ _ _ _ _ _ _ _ _
end Go.Proofs.YtkkanggkbbmfnaaGreatDoor.Cn

/- plain mathematics: an expression's text is parsed to it -/
namespace Go.Proofs.YtkkanggkbbmfnaaGreatDoor.Cn
open Go.RowKit Go.Lib
set_option linter.unusedVariables false

theorem sp_join {c : UInt8} : ∀ {ps : List L}, ps ≠ [] → (∀ p ∈ ps, c ∉ p) → sp c (join ps [c]) = ps
  | [], h, _ => absurd rfl h
  | [p], _, h => by rw [join_one]; exact sp_free (h p List.mem_cons_self)
  | p :: q :: ps, _, h => by
    have ih := sp_join (c := c) (ps := q :: ps) (by simp) fun x hx => h x (List.mem_cons_of_mem _ hx)
    have e : join (p :: q :: ps) [c] = p ++ c :: join (q :: ps) [c] := by
      rw [join_cons, join_cons]
      unfold joinTail
      simp
    rw [e, sp_app, ih, sp_free (h p List.mem_cons_self)]; rfl
theorem isD_dec {k : Nat} (h : k < 10) : isD (UInt8.ofNat (48 + k)) = true ∧ (UInt8.ofNat (48 + k)).toNat - 48 = k := by
  have e : (UInt8.ofNat (48 + k)).toNat = 48 + k := by rw [UInt8.toNat_ofNat']; omega
  unfold isD
  rw [e]
  simp; omega
theorem dec_dig {j : Nat} (h : j < 64) : ∀ b ∈ decDigits j, isD b = true := by
  intro b hb
  by_cases h1 : j < 10
  · rw [decDigits_one h1] at hb
    rw [List.mem_singleton.1 hb]; exact (isD_dec h1).1
  · rw [decDigits_two h1 (by omega)] at hb
    rcases List.mem_cons.1 hb with rfl | hb
    · exact (isD_dec (by omega)).1
    · rw [List.mem_singleton.1 hb]; exact (isD_dec (by omega)).1
theorem dg_dec {j : Nat} (h : j < 64) : dgT (decDigits j) = (j, true) := by
  by_cases h1 : j < 10
  · rw [decDigits_one h1]
    obtain ⟨a, b⟩ := isD_dec h1
    show (if isD (UInt8.ofNat (48 + j)) = true then ((UInt8.ofNat (48 + j)).toNat - 48, true) else (0, false)) = _
    rw [a, b]; rfl
  · rw [decDigits_two h1 (by omega)]
    obtain ⟨a, b⟩ := isD_dec (k := j / 10) (by omega)
    obtain ⟨c, d⟩ := isD_dec (k := j % 10) (by omega)
    show (if (isD (UInt8.ofNat (48 + j / 10)) && isD (UInt8.ofNat (48 + j % 10))) = true then (10 * ((UInt8.ofNat (48 + j / 10)).toNat - 48) + ((UInt8.ofNat (48 + j % 10)).toNat - 48), true) else (0, false)) = _
    rw [a, b, c, d]
    simp; omega
theorem num_dec (f : Fd) {j : Nat} (h : j < 64) : numT f (decDigits j) = (j, true) := by
  rw [numT_none (nmI_len (by have := dec_len h; omega)), dg_dec h]
theorem read_dec (f : Fd) {j : Nat} (h : j < 64) : readT f (decDigits j) = ((j, j, 1), true) := read_num (num_dec f h)
theorem err_dec {f : Fd} {j : Nat} (h : j < 64) (h1 : f.lo ≤ j) (h2 : j ≤ f.hi) : errP f (decDigits j) = 0 := by
  unfold errP mayB
  rw [read_dec f h, if_pos rfl, if_pos (by simp [h1, h2])]
theorem read_star (f : Fd) (hf : FOk f) : readT f [42] = ((f.lo, f.hi, 1), true) := by
  have h1 : numT f [42] = (0, false) := by rw [numT_none (nmI_len (by decide))]; decide
  have h2 : ct 47 [42] = ([42], [], false) := by decide
  rw [read_no h1 h2 (span_star f)]; rfl
theorem err_star (f : Fd) (hf : FOk f) : errP f [42] = 0 := by
  unfold errP mayB
  rw [read_star f hf, if_pos rfl, if_pos (by have := hf.lh; simp; exact this)]
theorem star_back (i : Nat) : errF (fds i) (sp 44 [42]) = 0 ∧ fv i [42] = allM i := by
  have e : sp 44 [42] = [[42]] := by decide
  refine ⟨?_, ?_⟩
  · rw [e, errF, err_star _ (fds_ok i), if_pos rfl]; rfl
  · unfold fv allM
    rw [e]
    refine mk_congr fun x _ => ?_
    unfold setF
    rw [List.any_cons, List.any_nil, Bool.or_false, read_star _ (fds_ok i)]
theorem comma_dec {j : Nat} (h : j < 64) : (44 : UInt8) ∉ decDigits j := fun hm => by have := dec_dig h _ hm; revert this; decide
theorem blank_dec {j : Nat} (h : j < 64) : (32 : UInt8) ∉ decDigits j := fun hm => by have := dec_dig h _ hm; revert this; decide
theorem bitsL_ne {n : Nat} (h0 : n ≠ 0) (hn : n < 18446744073709551616) : bitsL n ≠ [] := by
  intro h
  refine h0 ?_
  rw [nat_mk hn]
  refine mk_none fun x => ?_
  by_cases hx : x < 64
  · cases e : n.testBit x with
    | false => rfl
    | true => have := mem_bel.2 ⟨hx, e⟩; rw [show bel n 64 = [] from h] at this; cases this
  · exact Nat.testBit_lt_two_pow (Nat.lt_of_lt_of_le hn (show 2 ^ 64 ≤ 2 ^ x from Nat.pow_le_pow_right (by decide) (by omega)))
theorem sp_list {n : Nat} (h0 : n ≠ 0) (hn : n < 18446744073709551616) : sp 44 (listT n) = (bitsL n).map decDigits := by
  unfold listT
  rw [if_neg h0]
  refine sp_join (by simpa using bitsL_ne h0 hn) fun p hp => ?_
  obtain ⟨j, hj, rfl⟩ := List.mem_map.1 hp
  exact comma_dec (mem_bel.1 hj).1
theorem list_back (i : Nat) {n : Nat} (h0 : n ≠ 0) (hn : n < 18446744073709551616) (hb : ∀ j, n.testBit j = true → (fds i).lo ≤ j ∧ j ≤ (fds i).hi) :
    errF (fds i) (sp 44 (listT n)) = 0 ∧ ∀ x, x < 64 → setF (fds i) (sp 44 (listT n)) x = n.testBit x := by
  rw [sp_list h0 hn]
  refine ⟨errF_ok fun p hp => ?_, fun x hx => ?_⟩
  · obtain ⟨j, hj, rfl⟩ := List.mem_map.1 hp
    obtain ⟨h1, h2⟩ := mem_bel.1 hj
    exact err_dec h1 (hb j h2).1 (hb j h2).2
  · rw [Bool.eq_iff_iff]
    unfold setF
    rw [List.any_eq_true]
    constructor
    · rintro ⟨p, hp, h⟩
      obtain ⟨j, hj, rfl⟩ := List.mem_map.1 hp
      obtain ⟨h1, h2⟩ := mem_bel.1 hj
      rw [read_dec _ h1] at h
      simp [inP] at h
      obtain rfl : x = j := by omega
      exact h2
    · intro h
      refine ⟨decDigits x, List.mem_map.2 ⟨x, mem_bel.2 ⟨hx, h⟩, rfl⟩, ?_⟩
      rw [read_dec _ hx]
      simp [inP]
theorem list_star {n : Nat} (h0 : n ≠ 0) (hn : n < 18446744073709551616) : listT n ≠ [42] := by
  intro h
  have h1 := sp_list h0 hn
  rw [h, show sp 44 [42] = [[42]] by decide] at h1
  have h2 : ([42] : L) ∈ (bitsL n).map decDigits := by rw [← h1]; exact List.mem_cons_self
  obtain ⟨j, hj, e⟩ := List.mem_map.1 h2
  have := dec_dig (mem_bel.1 hj).1 42 (by rw [e]; exact List.mem_cons_self)
  revert this; decide
theorem blank_join : ∀ {ps : List L}, (∀ p ∈ ps, (32 : UInt8) ∉ p) → (32 : UInt8) ∉ join ps [44]
  | [], _ => by simp [join_nil]
  | p :: ps, h => by
    rw [join_cons, List.mem_append, not_or]
    refine ⟨h p List.mem_cons_self, ?_⟩
    unfold joinTail
    rw [List.mem_flatten]
    rintro ⟨l, hl, hm⟩
    obtain ⟨q, hq, rfl⟩ := List.mem_map.1 hl
    rcases List.mem_append.1 hm with hm | hm
    · simp at hm
    · exact h q (List.mem_cons_of_mem _ hq) hm
theorem blank_text (n : Nat) (s : Bool) : (32 : UInt8) ∉ textT n s := by
  unfold textT listT
  split
  · decide
  · split
    · decide
    · refine blank_join fun p hp => ?_
      obtain ⟨j, hj, rfl⟩ := List.mem_map.1 hp
      exact blank_dec (mem_bel.1 hj).1
theorem sp_text (e : Ex) : sp 32 (exT e) = [textT e.a (decide (e.a = allM 0)), textT e.b (decide (e.b = allM 1)), textT e.c e.x, textT e.d (decide (e.d = allM 3)), textT e.e e.y] := by
  refine sp_join (by simp) fun p hp => ?_
  simp only [List.mem_cons, List.not_mem_nil, or_false] at hp
  rcases hp with rfl | rfl | rfl | rfl | rfl <;> exact blank_text _ _
/-- the values of a field that is right -/
theorem field_in {f : Fd} {ps : List L} (h : errF f ps = 0) : ∀ p ∈ ps, errP f p = 0 := by
  induction ps with
  | nil => intro p hp; cases hp
  | cons q ps ih =>
    rw [errF] at h
    by_cases hq : errP f q = 0
    · rw [if_pos hq] at h
      intro p hp
      rcases List.mem_cons.1 hp with rfl | hp
      · exact hq
      · exact ih h p hp
    · rw [if_neg hq] at h; exact absurd h hq
theorem part_in {f : Fd} {p : L} (h : errP f p = 0) : f.lo ≤ (readT f p).1.1 ∧ (readT f p).1.1 ≤ (readT f p).1.2.1 ∧ (readT f p).1.2.1 ≤ f.hi ∧ 1 ≤ (readT f p).1.2.2 := by
  unfold errP at h
  split at h
  · split at h
    · rename_i hm
      unfold mayB at hm
      simp only [Bool.and_eq_true, decide_eq_true_eq] at hm
      exact ⟨hm.1.1.1.1, hm.1.1.1.2, hm.1.1.2, hm.1.2⟩
    · cases h
  · cases h
theorem set_in {f : Fd} {ps : List L} (h : errF f ps = 0) {x : Nat} (hx : setF f ps x = true) : f.lo ≤ x ∧ x ≤ f.hi := by
  unfold setF at hx
  obtain ⟨p, hp, h2⟩ := List.any_eq_true.1 hx
  obtain ⟨h3, h4, h5, h6⟩ := part_in (field_in h p hp)
  simp only [inP, Bool.and_eq_true, decide_eq_true_eq] at h2
  omega
theorem set_some {f : Fd} {t : L} (h : errF f (sp 44 t) = 0) : ∃ x, setF f (sp 44 t) x = true := by
  obtain ⟨p, ps, e⟩ := sp_cons 44 t
  rw [e] at h ⊢
  obtain ⟨h3, h4, h5, h6⟩ := part_in (field_in h p List.mem_cons_self)
  refine ⟨(readT f p).1.1, ?_⟩
  unfold setF
  rw [List.any_cons, Bool.or_eq_true]
  left
  simp [inP, h4]
theorem fv_in {i : Nat} {t : L} (h : errF (fds i) (sp 44 t) = 0) : fv i t ≠ 0 ∧ fv i t < 18446744073709551616 ∧ ∀ j, (fv i t).testBit j = true → (fds i).lo ≤ j ∧ j ≤ (fds i).hi := by
  have hh := (fds_ok i).hi
  refine ⟨fun h0 => ?_, mk_lt _, fun j hj => ?_⟩
  · obtain ⟨x, hx⟩ := set_some h
    have hx2 := set_in h hx
    have := mk_bit (setF (fds i) (sp 44 t)) x
    rw [show mk (setF (fds i) (sp 44 t)) = 0 from h0, Nat.zero_testBit, hx] at this
    simp at this
    omega
  · rw [show fv i t = mk (setF (fds i) (sp 44 t)) from rfl, mk_bit, Bool.and_eq_true] at hj
    exact set_in h hj.2
/-- of a field (but weekdays) the text of its values is read as them -/
theorem text_back {i : Nat} {t : L} (h : errF (fds i) (sp 44 t) = 0) {s : Bool} (hs : s = true → fv i t = allM i) :
    errF (fds i) (sp 44 (textT (fv i t) s)) = 0 ∧ fv i (textT (fv i t) s) = fv i t ∧ (s = false → textT (fv i t) s ≠ [42]) := by
  obtain ⟨h0, hn, hb⟩ := fv_in h
  cases s with
  | true =>
    obtain ⟨a, b⟩ := star_back i
    refine ⟨a, ?_, fun h => by cases h⟩
    show fv i [42] = _
    rw [b, hs rfl]
  | false =>
    obtain ⟨a, b⟩ := list_back i h0 hn hb
    refine ⟨a, ?_, fun _ => list_star h0 hn⟩
    show mk _ = _
    conv => rhs; rw [nat_mk hn]
    exact mk_congr b
theorem fold_in {p : Nat → Bool} (hp : ∀ x, p x = true → x ≤ 7) : ∀ j, (mk (fold p)).testBit j = true → 0 ≤ j ∧ j ≤ 6 := by
  intro j hj
  rw [mk_bit, Bool.and_eq_true] at hj
  have h2 := hj.2
  unfold fold at h2
  simp only [Bool.or_eq_true, Bool.and_eq_true, Bool.not_eq_true', decide_eq_false_iff_not, decide_eq_true_eq] at h2
  rcases h2 with ⟨h3, h4⟩ | ⟨h3, h4⟩
  · have := hp j h3; omega
  · omega
theorem fold_ne {p : Nat → Bool} {x : Nat} (hx : p x = true) (h7 : x ≤ 7) : mk (fold p) ≠ 0 := by
  intro h0
  have key : ∀ y, y < 64 → fold p y = true → False := fun y hy hf => by
    have := mk_bit (fold p) y
    rw [h0, Nat.zero_testBit, hf] at this
    simp at this; omega
  by_cases h : x = 7
  · subst h; exact key 0 (by decide) (by unfold fold; rw [hx]; simp)
  · exact key x (by omega) (by unfold fold; rw [hx]; simp [h])
/-- .. of weekdays -/
theorem text_back4 {t : L} (h : errF (fds 4) (sp 44 t) = 0) {s : Bool} (hs : s = decide (t = [42])) :
    errF (fds 4) (sp 44 (textT (mk (fold (setF (fds 4) (sp 44 t)))) s)) = 0 ∧ mk (fold (setF (fds 4) (sp 44 (textT (mk (fold (setF (fds 4) (sp 44 t)))) s)))) = mk (fold (setF (fds 4) (sp 44 t))) ∧
      (s = false → textT (mk (fold (setF (fds 4) (sp 44 t)))) s ≠ [42]) := by
  obtain ⟨x, hx⟩ := set_some h
  have h7 : ∀ x, setF (fds 4) (sp 44 t) x = true → x ≤ 7 := fun x hx => (set_in h hx).2
  have hb := fold_in h7
  have h0 := fold_ne hx (h7 x hx)
  cases s with
  | true =>
    have ht : t = [42] := of_decide_eq_true hs.symm
    refine ⟨(star_back 4).1, ?_, fun h => by cases h⟩
    show mk (fold (setF (fds 4) (sp 44 [42]))) = _
    rw [ht]
  | false =>
    obtain ⟨a, b⟩ := list_back 4 h0 (mk_lt _) fun j hj => by have := hb j hj; exact ⟨Nat.zero_le _, by show j ≤ 7; omega⟩
    refine ⟨a, ?_, fun _ => list_star h0 (mk_lt _)⟩
    show mk (fold (setF (fds 4) (sp 44 (listT (mk (fold (setF (fds 4) (sp 44 t)))))))) = _
    conv => rhs; rw [nat_mk (mk_lt (fold (setF (fds 4) (sp 44 t))))]
    generalize mk (fold (setF (fds 4) (sp 44 t))) = n at hb b h0
    refine mk_congr fun y hy => ?_
    have b7 : setF (fds 4) (sp 44 (listT n)) 7 = false := by
      rw [b 7 (by decide)]
      cases e : n.testBit 7 with
      | false => rfl
      | true => have := (hb 7 e).2; omega
    unfold fold
    rw [b7, b y hy, Bool.and_false, Bool.or_false]
    cases e : n.testBit y with
    | false => rfl
    | true => have := (hb y e).2; simp; omega
theorem five_of {α : Type} {l : List α} (h : l.length = 5) : ∃ a b c d e, l = [a, b, c, d, e] := by
  match l, h with
  | [a, b, c, d, e], _ => exact ⟨a, b, c, d, e, rfl⟩
theorem exOf_five (a b c d e : L) : exOf [a, b, c, d, e] = ⟨fv 0 a, fv 1 b, fv 2 c, fv 3 d, mk (fold (setF (fds 4) (sp 44 e))), decide (c = [42]), decide (e = [42])⟩ := rfl
theorem len_five (a b c d e : L) : [a, b, c, d, e].length = 5 := rfl
theorem back {s : L} (h : parseE s = 0) (hl : (exT (parseV s)).length ≤ 128) : parseE (exT (parseV s)) = 0 ∧ parseV (exT (parseV s)) = parseV s := by
  have hV : parseV s = exOf (sp 32 s) := by unfold parseV; rw [if_pos h]
  have hP := h
  unfold parseE at hP
  have h128 : ¬ 128 < s.length := fun x => by rw [if_pos x] at hP; cases hP
  rw [if_neg h128] at hP
  have h5 : (sp 32 s).length = 5 := Decidable.byContradiction fun x => by rw [if_neg x] at hP; cases hP
  rw [if_pos h5] at hP
  obtain ⟨t0, t1, t2, t3, t4, e5⟩ := five_of h5
  rw [e5] at hV hP
  simp only [errs] at hP
  have q0 : errF (fds 0) (sp 44 t0) = 0 := by split at hP <;> assumption
  rw [if_pos q0] at hP
  have q1 : errF (fds 1) (sp 44 t1) = 0 := by split at hP <;> assumption
  rw [if_pos q1] at hP
  have q2 : errF (fds 2) (sp 44 t2) = 0 := by split at hP <;> assumption
  rw [if_pos q2] at hP
  have q3 : errF (fds 3) (sp 44 t3) = 0 := by split at hP <;> assumption
  rw [if_pos q3] at hP
  have q4 : errF (fds 4) (sp 44 t4) = 0 := by split at hP <;> assumption
  have hex : exOf [t0, t1, t2, t3, t4] = ⟨fv 0 t0, fv 1 t1, fv 2 t2, fv 3 t3, mk (fold (setF (fds 4) (sp 44 t4))), decide (t2 = [42]), decide (t4 = [42])⟩ := rfl
  rw [hex] at hV
  obtain ⟨a0, b0, _⟩ := text_back q0 (s := decide (fv 0 t0 = allM 0)) fun h => of_decide_eq_true h
  obtain ⟨a1, b1, _⟩ := text_back q1 (s := decide (fv 1 t1 = allM 1)) fun h => of_decide_eq_true h
  obtain ⟨a2, b2, c2⟩ := text_back q2 (s := decide (t2 = [42])) fun h => by rw [of_decide_eq_true h]; exact (star_back 2).2
  obtain ⟨a3, b3, _⟩ := text_back q3 (s := decide (fv 3 t3 = allM 3)) fun h => of_decide_eq_true h
  obtain ⟨a4, b4, c4⟩ := text_back4 q4 (s := decide (t4 = [42])) rfl
  have hsp := sp_text (parseV s)
  rw [hV] at hl hsp ⊢
  dsimp only at hsp
  have hE : parseE (exT ⟨fv 0 t0, fv 1 t1, fv 2 t2, fv 3 t3, mk (fold (setF (fds 4) (sp 44 t4))), decide (t2 = [42]), decide (t4 = [42])⟩) = 0 := by
    unfold parseE
    rw [if_neg (by omega), hsp, if_pos (len_five _ _ _ _ _)]
    simp only [errs]
    rw [if_pos a0, if_pos a1, if_pos a2, if_pos a3, if_pos a4]
  refine ⟨hE, ?_⟩
  unfold parseV
  rw [if_pos hE, hsp]
  rw [exOf_five]
  rw [b0, b1, b2, b3, b4]
  have x2 : ∀ (n : Nat) (s : Bool), (s = false → textT n s ≠ [42]) → decide (textT n s = [42]) = s := fun n s h => by
    cases s with
    | true => exact decide_eq_true rfl
    | false => exact decide_eq_false (h rfl)
  rw [x2 _ _ c2, x2 _ _ c4]
end Go.Proofs.YtkkanggkbbmfnaaGreatDoor.Cn

/- the document's answer for an expression: texts that are cut, numbers -/
namespace Go.Proofs.YtkkanggkbbmfnaaGreatDoor.Cn
open Go.RowKit Go.Lib Go.Proofs.YtkkanggkbbmfnaaGreatDoor.Ht
set_option linter.unusedVariables false

set_option maxRecDepth 20000 in
set_option maxHeartbeats 4000000 in
theorem rat_any (s : L) (hs : s.length ≤ 1000) (c : UInt8) (w : World) :
    Calls Tryz.prog 59 #[S s, .int .u8 (c.toNat : Nat)] w fun e w' => e = .returned (.int .i64 (fiI c s)) ∧ w' = w := by
  have hz := size_S s
  go_enter Tryz.func59, Tryz.ntmps59
  go_wp2_with fail
  go_loopw [5] (fun i wr => ∃ k : Nat, i = .int .i64 (k : Nat) ∧ k ≤ s.length ∧ c ∉ s.take k ∧ wr = w) (fun i _ => s.length - (RowKit.intOf i).toNat)
  case atStart => exact ⟨0, rfl, Nat.zero_le _, by simp, rfl⟩
  case round =>
    obtain ⟨k, rfl, hk, hno, rfl⟩ := hrel
    have HN := Lib.hid hno
    clear hno
    by_cases hlt : k < s.length
    · have hkI : ((k : Nat) : Int) < ((s.length : Nat) : Int) := by omega
      have hkb : (0 : Int) ≤ (k : Nat) ∧ ((k : Nat) : Int) < ((⟨s.toArray⟩ : ByteArray).size : Nat) := by rw [hz]; omega
      obtain ⟨b, hb⟩ : ∃ b, s[k] = b := ⟨_, rfl⟩
      have hbb : (⟨s.toArray⟩ : ByteArray)[k]'(by rw [hz]; exact hlt) = b := hb
      have HG := Lib.hid (show s[k]? = some b by rw [List.getElem?_eq_getElem hlt, hb])
      clear hb
      by_cases hc : b = c
      · subst hc
        have hfi : fiI b s = (k : Nat) := by
          have : fi b s = some k := by
            cases e : fi b s with
            | none => exact absurd (List.mem_of_getElem? HG.out) (fi_none.1 e)
            | some j =>
              obtain ⟨h1, h2, h3⟩ := fi_some e
              congr 1
              rcases Nat.lt_trichotomy j k with h | h | h
              · exfalso
                refine HN.out ?_
                have h4 : s[j]? = some b := by
                  rw [h2, List.getElem?_append_right (by rw [List.length_take]; omega)]
                  simp [List.length_take, Nat.min_eq_left (Nat.le_of_lt h1)]
                exact List.mem_of_getElem? (i := j) (by rw [List.getElem?_take_of_lt h]; exact h4)
              · exact h
              · exfalso
                refine h3 ?_
                exact List.mem_of_getElem? (i := k) (by rw [List.getElem?_take_of_lt h]; exact HG.out)
          unfold fiI; rw [this]
        have HF := Lib.hid hfi
        clear hfi
        go_wp2_with fail
        go_ret
        exact ⟨by rw [HF.out]; rfl, rfl⟩
      · have hne : ¬ (b.toNat : Int) = (c.toNat : Int) := fun h => hc (UInt8.toNat_inj.1 (by omega))
        have hneN : ¬ b.toNat = c.toNat := fun h => hc (UInt8.toNat_inj.1 h)
        have HC := Lib.hid hc
        clear hc
        go_wp2_with fail
        refine ⟨⟨k + 1, by simp, by omega, ?_, trivial⟩, by simp [RowKit.intOf]; omega⟩
        rw [List.take_add_one, HG.out, List.mem_append, not_or]
        exact ⟨HN.out, by simp; exact fun h => HC.out h.symm⟩
    · have hkI : ¬ ((k : Nat) : Int) < ((s.length : Nat) : Int) := by omega
      have hno := HN.out
      rw [show k = s.length by omega, List.take_length] at hno
      have hfi : fiI c s = -1 := by unfold fiI; rw [fi_none.2 hno]
      have HF := Lib.hid hfi
      clear hfi hno
      go_wp2_with fail
      go_ret
      exact ⟨by rw [HF.out]; rfl, rfl⟩
theorem cell_at {w : World} {g D : Nat} {cur : Array Value} {t : TypeId} {v : Value} (h : w.heap[g]? = some (.cells cur t (0, 0))) (hc : cur[D]? = some v) : w.cell? ⟨g, D, none⟩ = some v := by
  simp [World.cell?, h, hc]
theorem own_set {w : World} {B : Nat} {e : TypeId} {g n cap : Nat} {xs : List Value} (h : w.ownsRow B e 1 (.slice (some ⟨g, 0, none⟩) n cap) n xs) {D : Nat} (hD : D < n) (v : Value) :
    (w.setCell ⟨g, D, none⟩ v).ownsRow B e 1 (.slice (some ⟨g, 0, none⟩) n cap) n (xs.set D v) := by
  refine ⟨by rw [List.length_set]; exact h.1, .inr ?_⟩
  rcases h.2 with ⟨h0, _⟩ | ⟨g', cap', cur, h0, hbg, hg, hnc, hcm, hcs, htake⟩
  · cases h0
  · cases h0
    refine ⟨g, cap, cur.setIfInBounds D v, rfl, hbg, heap_setCell_same w g D _ _ v hg, hnc, hcm, by rw [Array.size_setIfInBounds]; exact hcs, ?_⟩
    rw [Array.toList_setIfInBounds, List.take_set, htake]
/-- a text's pieces in a row of the call's own -/
abbrev strs (l : List L) : List Value := l.map fun x => S x
set_option maxRecDepth 20000 in
set_option maxHeartbeats 8000000 in
theorem rsplit_any (s : L) (hs : s.length ≤ 1000) (c : UInt8) (w : World) :
    Calls Tryz.prog 37 #[S s, .int .u8 (c.toNat : Nat)] w fun e w' => (∃ v, e = .returned v ∧ w'.ownsRow w.heap.size 9 1 v (sp c s).length (strs (sp c s))) ∧ Below w.heap.size w w' := by
  obtain ⟨i0, hi0, hz0, hz1, hz2⟩ := info_parts info9
  have hz := size_S s
  have hsI : ((s.length : Nat) : Int) ≤ 1000 := by omega
  have hmix : Tryz.prog.follows .mixedOrders = true := by kernel_rfl
  go_enter Tryz.func37, Tryz.ntmps37
  go_wp2_with fail
  go_loopw [6, 5] (fun i v wr => ∃ k : Nat, i = .int .i64 (k : Nat) ∧ k ≤ s.length ∧ wr.ownsRow w.heap.size 9 1 v (sp c (s.take k)).length (strs (sp c (s.take k))) ∧ Below w.heap.size w wr) (fun i _ _ => s.length - (RowKit.intOf i).toNat)
  case atStart =>
    refine ⟨0, rfl, Nat.zero_le _, ?_, (Below.refl _ _).alloc (Nat.le_refl _) _⟩
    exact ⟨rfl, .inr ⟨w.heap.size, 1, _, rfl, Nat.le_refl _, heap_alloc_new w _, Nat.le_refl _, by decide, rfl, rfl⟩⟩
  case round =>
    obtain ⟨k, rfl, hk, hown, hbel⟩ := hrel
    by_cases hlt : k < s.length
    · have hkI : ((k : Nat) : Int) < ((s.length : Nat) : Int) := by omega
      have hkb : (0 : Int) ≤ (k : Nat) ∧ ((k : Nat) : Int) < ((⟨s.toArray⟩ : ByteArray).size : Nat) := by rw [hz]; omega
      obtain ⟨b, hb⟩ : ∃ b, s[k] = b := ⟨_, rfl⟩
      have hbb : (⟨s.toArray⟩ : ByteArray)[k]'(by rw [hz]; exact hlt) = b := hb
      have htk : s.take (k + 1) = s.take k ++ [b] := by rw [List.take_add_one, List.getElem?_eq_getElem hlt, hb]; rfl
      obtain ⟨d, h, e1, e2⟩ := sp_snoc c b (s.take k)
      rw [← htk] at e2
      have hdl : (sp c (s.take k)).length = d.length + 1 := by rw [e1, List.length_append]; rfl
      have hdk : d.length ≤ k := by
        have h1 := sp_length c (s.take k)
        have h2 : (s.take k).count c ≤ (s.take k).length := List.count_le_length
        rw [List.length_take] at h2
        omega
      have HK := Lib.hid (And.intro hb (And.intro htk e2))
      clear hb htk e2
      rw [e1] at hown
      rw [List.length_append, List.length_singleton] at hown
      clear hdl
      by_cases hc : b = c
      · subst hc
        have HB := Lib.hid hbel
        clear hbel
        go_wp2_with (at_builtin; refine wpList_append_own _ rfl _ _ 22 rfl w.heap.size 9 i0 (.string ⟨#[]⟩) 1 16 Tryz.underlying22 hi0 hz0 hz1 hz2 rfl (by decide) _ _ _ rfl (hown.alloc _) ⟨wr.heap.size, 0, none⟩ 1 1 [S []] rfl rfl ?c1 ?c2 ?c3 ?c4 ?c5 ?_)
        case c2 => rfl
        case c3 => have : maxLen = 9223372036854775807 := rfl; omega
        case c4 => omega
        case c5 => have := HB.out.size; first | omega | (simp; omega)
        intro v' w3 hown' hgrow _
        have hb3 : Below w.heap.size w w3 := (HB.out.alloc HB.out.size _).grown hgrow (by have := HB.out.size; simp; omega) (fun g hg => (hown.lt g hg).1)
        obtain ⟨ao, cp, rfl⟩ : ∃ ao cp, v' = .slice ao (d.length + 1 + 1) cp := by
          rcases hown'.2 with ⟨rfl, h9⟩ | ⟨g, cap, cur, rfl, _⟩
          · omega
          · exact ⟨_, _, rfl⟩
        have HR := Lib.hid (And.intro hown' hb3)
        clear hown' hgrow hb3 hown
        go_wp2_with fail
        refine ⟨⟨k + 1, by simp, by omega, ?_, HR.out.2⟩, by simp [RowKit.intOf]; omega⟩
        have e3 : sp b (s.take (k + 1)) = d ++ [h] ++ [[]] := by rw [HK.out.2.2]; simp
        rw [e3]
        have e4 : (d ++ [h] ++ [[]]).length = d.length + 1 + 1 := by simp
        rw [e4]
        have e5 : strs (d ++ [h] ++ [[]]) = strs (d ++ [h]) ++ [S []] := by simp [strs]
        rw [e5]
        simpa [strs] using HR.out.1
      · obtain ⟨N, hN⟩ : ∃ N, N = d.length + 1 := ⟨_, rfl⟩
        obtain ⟨D, hD⟩ : ∃ D, D = d.length := ⟨_, rfl⟩
        rw [← hN] at hown
        rcases hown.2 with ⟨rfl, h9⟩ | ⟨g, cap, cur, rfl, hbg, hg, hnc, hcm, hcs, htake⟩
        · omega
        have hcur : cur[D]? = some (S h) := by
          have h1 : (cur.toList.take (N * 1))[D]? = some (S h) := by
            rw [htake, hD]; simp [strs]
          rw [List.getElem?_take_of_lt (by omega)] at h1
          simpa using h1
        have hset := own_set hown (D := D) (by omega) (S (h ++ [b]))
        have hset2 : (strs (d ++ [h])).set D (S (h ++ [b])) = strs (d ++ [h ++ [b]]) := by rw [hD]; simp [strs]
        rw [hset2] at hset
        have hw1 : IntKind.i64.wrap (((N : Nat) : Int) - 1) = ((D : Nat) : Int) := by rw [IntWalk.i64_in _ (by omega)]; omega
        have hDN : (0 : Int) ≤ ((D : Nat) : Int) ∧ ((D : Nat) : Int) < ((N : Nat) : Int) := by omega
        have hk1 : IntKind.i64.wrap (((k : Nat) : Int) + 1) = ((k : Nat) : Int) + 1 := IntWalk.i64_in _ (by omega)
        have hhl : h.length ≤ 1000 := by
          have h1 : h ∈ sp c (s.take k) := by rw [e1]; simp
          have := (sp_mem_len h1).1
          rw [List.length_take] at this
          omega
        have hzh := size_S h
        have hb2 : (0 : Int) ≤ ((k : Nat) : Int) + 1 ∧ ((k : Nat) : Int) + 1 ≤ ((s.length : Nat) : Int) := by omega
        have hb3 : ((k : Nat) : Int) ≤ ((k : Nat) : Int) + 1 := by omega
        have hhl2 : h.length ≤ 9223372036854775806 := by omega
        have hsl : (⟨s.toArray⟩ : ByteArray).extract k (k + 1) = ⟨#[b]⟩ := by
          rw [sub_S, show k + 1 - k = 1 by omega]
          have : (s.drop k).take 1 = [b] := by rw [List.drop_eq_getElem_cons hlt, HK.out.1]; rfl
          rw [this]
        have hsa : (⟨h.toArray⟩ : ByteArray) ++ ⟨#[b]⟩ = ⟨(h ++ [b]).toArray⟩ := by
          apply ByteArray.ext; simp
        have hcI : ¬ (b.toNat : Int) = (c.toNat : Int) := fun h => hc (UInt8.toNat_inj.1 (by omega))
        have hcN : ¬ b.toNat = c.toNat := fun h => hc (UInt8.toNat_inj.1 h)
        have HS1 := Lib.hid (show wr.drew.heap[g]? = some (.cells cur 9 (0, 0)) from hg)
        have HO := Lib.hid (And.intro hset (And.intro hbel (And.intro hbg (And.intro hN (And.intro hc e1)))))
        clear hset hset2 hown hbel hbg hN hD hc e1 htake hcs hnc hcm hdk hg
        go_wp2_with fail
        -- REGION7
        refine begin' 17 (fun Y => Y.heap[g]? = some (.cells cur 9 (0, 0))) hmix HS1.out (fun hS0 => ?_)
        refine Ht.takeD 8 (i := 0) ⟨some 22, _, _, _, _, _⟩ (.slice (some ⟨g, 0, none⟩) N cap) rfl (by kernel_rfl) (by kernel_rfl) (by decide) (by kernel_rfl) (by kernel_rfl) (by kernel_rfl) hS0 (Or.inl ⟨by rfl, by (intro X hX; go_simp)⟩) ?_
        simp only [Act.put, List.setIfInBounds_toArray, List.set_cons_zero, List.set_cons_succ]
        refine Ht.takeD 8 (i := 1) ⟨some 23, _, _, _, _, _⟩ (.slice (some ⟨g, 0, none⟩) N cap) rfl (by kernel_rfl) (by kernel_rfl) (by decide) (by kernel_rfl) (by kernel_rfl) (by kernel_rfl) hS0 (Or.inl ⟨by rfl, by (intro X hX; go_simp)⟩) ?_
        simp only [Act.put, List.setIfInBounds_toArray, List.set_cons_zero, List.set_cons_succ]
        refine Ht.takeD 8 (i := 2) ⟨some 24, _, _, _, _, _⟩ (.int .i64 (N : Nat)) rfl (by kernel_rfl) (by kernel_rfl) (by decide) (by kernel_rfl) (by kernel_rfl) (by kernel_rfl) hS0 (Or.inl ⟨by rfl, by (intro X hX; go_simp)⟩) ?_
        simp only [Act.put, List.setIfInBounds_toArray, List.set_cons_zero, List.set_cons_succ]
        refine Ht.takeD 8 (i := 3) ⟨some 25, _, _, _, _, _⟩ (.int .i64 (D : Nat)) rfl (by kernel_rfl) (by kernel_rfl) (by decide) (by kernel_rfl) (by kernel_rfl) (by kernel_rfl) hS0 (Or.inl ⟨by rfl, by (intro X hX; have := hw1; go_simp)⟩) ?_
        simp only [Act.put, List.setIfInBounds_toArray, List.set_cons_zero, List.set_cons_succ]
        refine Ht.takeD 8 (i := 4) ⟨some 26, _, _, _, _, _⟩ (.slice (some ⟨g, 0, none⟩) N cap) rfl (by kernel_rfl) (by kernel_rfl) (by decide) (by kernel_rfl) (by kernel_rfl) (by kernel_rfl) hS0 (Or.inl ⟨by rfl, by (intro X hX; go_simp)⟩) ?_
        simp only [Act.put, List.setIfInBounds_toArray, List.set_cons_zero, List.set_cons_succ]
        refine Ht.takeD 8 (i := 5) ⟨some 27, _, _, _, _, _⟩ (.slice (some ⟨g, 0, none⟩) N cap) rfl (by kernel_rfl) (by kernel_rfl) (by decide) (by kernel_rfl) (by kernel_rfl) (by kernel_rfl) hS0 (Or.inl ⟨by rfl, by (intro X hX; go_simp)⟩) ?_
        simp only [Act.put, List.setIfInBounds_toArray, List.set_cons_zero, List.set_cons_succ]
        refine Ht.takeD 8 (i := 6) ⟨some 28, _, _, _, _, _⟩ (.int .i64 (N : Nat)) rfl (by kernel_rfl) (by kernel_rfl) (by decide) (by kernel_rfl) (by kernel_rfl) (by kernel_rfl) hS0 (Or.inl ⟨by rfl, by (intro X hX; go_simp)⟩) ?_
        simp only [Act.put, List.setIfInBounds_toArray, List.set_cons_zero, List.set_cons_succ]
        refine Ht.takeD 8 (i := 7) ⟨some 29, _, _, _, _, _⟩ (.int .i64 (D : Nat)) rfl (by kernel_rfl) (by kernel_rfl) (by decide) (by kernel_rfl) (by kernel_rfl) (by kernel_rfl) hS0 (Or.inl ⟨by rfl, by (intro X hX; have := hw1; go_simp)⟩) ?_
        simp only [Act.put, List.setIfInBounds_toArray, List.set_cons_zero, List.set_cons_succ]
        refine Ht.takeD 8 (i := 8) ⟨some 30, _, _, _, _, _⟩ (.pointer (some ⟨g, D, none⟩)) rfl (by kernel_rfl) (by kernel_rfl) (by decide) (by kernel_rfl) (by kernel_rfl) (by kernel_rfl) hS0 (Or.inl ⟨by rfl, by (intro X hX; have := hDN; go_simp)⟩) ?_
        simp only [Act.put, List.setIfInBounds_toArray, List.set_cons_zero, List.set_cons_succ]
        refine Ht.takeD 8 (i := 9) ⟨some 31, _, _, _, _, _⟩ (S h) rfl (by kernel_rfl) (by kernel_rfl) (by decide) (by kernel_rfl) (by kernel_rfl) (by kernel_rfl) hS0 (Or.inl ⟨by rfl, by (intro X hX; have := cell_at hX hcur; go_simp)⟩) ?_
        simp only [Act.put, List.setIfInBounds_toArray, List.set_cons_zero, List.set_cons_succ]
        refine Ht.takeD 8 (i := 10) ⟨some 32, _, _, _, _, _⟩ (S s) rfl (by kernel_rfl) (by kernel_rfl) (by decide) (by kernel_rfl) (by kernel_rfl) (by kernel_rfl) hS0 (Or.inl ⟨by rfl, by (intro X hX; go_simp)⟩) ?_
        simp only [Act.put, List.setIfInBounds_toArray, List.set_cons_zero, List.set_cons_succ]
        refine Ht.takeD 8 (i := 11) ⟨some 33, _, _, _, _, _⟩ (.int .i64 (k : Nat)) rfl (by kernel_rfl) (by kernel_rfl) (by decide) (by kernel_rfl) (by kernel_rfl) (by kernel_rfl) hS0 (Or.inl ⟨by rfl, by (intro X hX; go_simp)⟩) ?_
        simp only [Act.put, List.setIfInBounds_toArray, List.set_cons_zero, List.set_cons_succ]
        refine Ht.takeD 8 (i := 12) ⟨some 34, _, _, _, _, _⟩ (.int .i64 (k : Nat)) rfl (by kernel_rfl) (by kernel_rfl) (by decide) (by kernel_rfl) (by kernel_rfl) (by kernel_rfl) hS0 (Or.inl ⟨by rfl, by (intro X hX; go_simp)⟩) ?_
        simp only [Act.put, List.setIfInBounds_toArray, List.set_cons_zero, List.set_cons_succ]
        refine Ht.takeD 8 (i := 13) ⟨some 35, _, _, _, _, _⟩ (.int .i64 ((k : Nat) + 1)) rfl (by kernel_rfl) (by kernel_rfl) (by decide) (by kernel_rfl) (by kernel_rfl) (by kernel_rfl) hS0 (Or.inl ⟨by rfl, by (intro X hX; have := hk1; go_simp)⟩) ?_
        simp only [Act.put, List.setIfInBounds_toArray, List.set_cons_zero, List.set_cons_succ]
        refine Ht.takeD 8 (i := 14) ⟨some 36, _, _, _, _, _⟩ (.string ⟨#[b]⟩) rfl (by kernel_rfl) (by kernel_rfl) (by decide) (by kernel_rfl) (by kernel_rfl) (by kernel_rfl) hS0 (Or.inl ⟨by rfl, by (intro X hX; have := And.intro hsl (And.intro hb2 hb3); go_simp)⟩) ?_
        simp only [Act.put, List.setIfInBounds_toArray, List.set_cons_zero, List.set_cons_succ]
        refine Ht.takeD 8 (i := 15) ⟨some 37, _, _, _, _, _⟩ (S (h ++ [b])) rfl (by kernel_rfl) (by kernel_rfl) (by decide) (by kernel_rfl) (by kernel_rfl) (by kernel_rfl) hS0 (Or.inl ⟨by rfl, by (intro X hX; have := And.intro hsa hhl2; go_simp)⟩) ?_
        simp only [Act.put, List.setIfInBounds_toArray, List.set_cons_zero, List.set_cons_succ]
        refine Ht.takeD 8 (i := 16) ⟨some 38, _, _, _, _, _⟩ (.pointer (some ⟨g, D, none⟩)) rfl (by kernel_rfl) (by kernel_rfl) (by decide) (by kernel_rfl) (by kernel_rfl) (by kernel_rfl) hS0 (Or.inl ⟨by rfl, by (intro X hX; have := hDN; go_simp)⟩) ?_
        simp only [Act.put, List.setIfInBounds_toArray, List.set_cons_zero, List.set_cons_succ]
        refine Ht.step (i := 17) ⟨none, _, _, _, _, _⟩ rfl (by kernel_rfl) (by rfl) (fun K hK => ?_)
        have hcc := cell_at hS0 hcur
        have hff : wr.drew.frozen? ⟨g, D, none⟩ = false := by simp [World.frozen?, hS0]
        go_simp
        refine hK _ _ (fun h => absurd rfl h) (fun _ => ?_)
        clear hK K
        try simp only [Act.put, List.setIfInBounds_toArray, List.set_cons_zero, List.set_cons_succ]
        refine done (by kernel_rfl) ?_
        -- END7
        go_wp2_with fail
        refine ⟨⟨k + 1, by simp, by omega, ?_, (HO.out.2.1.trans (Below.drew (Below.refl _ _))).setCell (p := ⟨g, D, none⟩) HO.out.2.2.1 _⟩, by simp [RowKit.intOf]; omega⟩
        have e3 : sp c (s.take (k + 1)) = d ++ [h ++ [b]] := by rw [HK.out.2.2, if_neg HO.out.2.2.2.2.1]
        have e4 : (d ++ [h ++ [b]]).length = N := by rw [HO.out.2.2.2.1]; simp
        rw [e3, e4]
        exact HO.out.1
    · have hkI : ¬ ((k : Nat) : Int) < ((s.length : Nat) : Int) := by omega
      rw [show k = s.length by omega, List.take_length] at hown
      go_wp2_with fail
      go_ret
      exact ⟨⟨_, rfl, hown⟩, hbel⟩
end Go.Proofs.YtkkanggkbbmfnaaGreatDoor.Cn

/- the document's answer for an expression: names, numbers -/
namespace Go.Proofs.YtkkanggkbbmfnaaGreatDoor.Cn
open Go.RowKit Go.Lib Go.Proofs.YtkkanggkbbmfnaaGreatDoor.Ht
set_option linter.unusedVariables false

/-- a field's names, as the document's answer lists them -/
def nsx : Nat → List L
  | 3 => [[], [106, 97, 110], [102, 101, 98], [109, 97, 114], [97, 112, 114], [109, 97, 121], [106, 117, 110], [106, 117, 108], [97, 117, 103], [115, 101, 112], [111, 99, 116], [110, 111, 118], [100, 101, 99]]
  | 4 => [[115, 117, 110], [109, 111, 110], [116, 117, 101], [119, 101, 100], [116, 104, 117], [102, 114, 105], [115, 97, 116]]
  | _ => []
theorem nsx_hit {i k : Nat} {s : L} (hi : i < 5) (h : (nsx i)[k]? = some s) (h0 : s ≠ []) : numT (fds i) s = (k, true) := by
  have hk := (List.getElem?_eq_some_iff.1 h).1
  have : i = 0 ∨ i = 1 ∨ i = 2 ∨ i = 3 ∨ i = 4 := by omega
  rcases this with rfl | rfl | rfl | rfl | rfl
  · simp [nsx] at hk
  · simp [nsx] at hk
  · simp [nsx] at hk
  · have key : ∀ k, k < 13 → k ≠ 0 → numT (fds 3) ((nsx 3).getD k []) = (k, true) := by decide +kernel
    have e : (nsx 3).getD k [] = s := by simp [List.getD, h]
    have hk0 : k ≠ 0 := fun e0 => by subst e0; exact h0 (by simpa [nsx] using h.symm)
    rw [← e]; exact key k hk hk0
  · have key : ∀ k, k < 7 → numT (fds 4) ((nsx 4).getD k []) = (k, true) := by decide +kernel
    have e : (nsx 4).getD k [] = s := by simp [List.getD, h]
    rw [← e]; exact key k hk
theorem nmI_at {s : L} : ∀ {n : L} {j : Nat}, nmI s n = some j → s = (n.drop (3 * j)).take 3 ∧ 3 * j + 3 ≤ n.length
  | [], j, h => by simp [nmI] at h
  | [a], j, h => by simp [nmI] at h
  | [a, b], j, h => by simp [nmI] at h
  | a :: b :: c :: r, j, h => by
    unfold nmI at h
    by_cases e : [a, b, c] = s
    · rw [if_pos e] at h
      obtain rfl := Option.some.inj h
      exact ⟨e.symm, by simp⟩
    · rw [if_neg e, Option.map_eq_some_iff] at h
      obtain ⟨m, hm, rfl⟩ := h
      obtain ⟨h1, h2⟩ := nmI_at hm
      refine ⟨?_, by simp only [List.length_cons]; omega⟩
      rw [show 3 * (m + 1) = 3 * m + 1 + 1 + 1 by omega]
      exact h1
theorem nsx_miss {i : Nat} {s : L} (hi : i < 5) (h : ∀ (j : Nat) (x : L), (nsx i)[j]? = some x → x = [] ∨ x ≠ s) : numT (fds i) s = dgT s := by
  refine numT_none ?_
  cases e : nmI s (fds i).nm with
  | none => rfl
  | some j =>
    exfalso
    obtain ⟨h1, h2⟩ := nmI_at e
    have : i = 0 ∨ i = 1 ∨ i = 2 ∨ i = 3 ∨ i = 4 := by omega
    rcases this with rfl | rfl | rfl | rfl | rfl
    · simp [fds] at h2
    · simp [fds] at h2
    · simp [fds] at h2
    · have hj : j < 12 := by have : (fds 3).nm.length = 36 := rfl; omega
      have key : ∀ j, j < 12 → (nsx 3)[j + 1]? = some (((fds 3).nm.drop (3 * j)).take 3) ∧ ((fds 3).nm.drop (3 * j)).take 3 ≠ [] := by decide +kernel
      rcases h _ _ (key j hj).1 with h3 | h3
      · exact (key j hj).2 h3
      · exact h3 h1.symm
    · have hj : j < 7 := by have : (fds 4).nm.length = 21 := rfl; omega
      have key : ∀ j, j < 7 → (nsx 4)[j]? = some (((fds 4).nm.drop (3 * j)).take 3) ∧ ((fds 4).nm.drop (3 * j)).take 3 ≠ [] := by decide +kernel
      rcases h _ _ (key j hj).1 with h3 | h3
      · exact (key j hj).2 h3
      · exact h3 h1.symm
theorem own_made {w : World} {e : TypeId} {xs : List Value} (hm : xs.length ≤ 1000) : (w.alloc (.cells xs.toArray e)).ownsRow w.heap.size e 1 (.slice (some ⟨w.heap.size, 0, none⟩) xs.length xs.length) xs.length xs :=
  ⟨by simp, .inr ⟨w.heap.size, xs.length, _, rfl, Nat.le_refl _, heap_alloc_new w _, Nat.le_refl _, by unfold maxLen; omega, by simp, by simp⟩⟩
theorem row_at {w : World} {B : Nat} {e : TypeId} {g n cap : Nat} {xs : List Value} (h : w.ownsRow B e 1 (.slice (some ⟨g, 0, none⟩) n cap) n xs) {k : Nat} {x : Value} (hx : xs[k]? = some x) : w.cell? ⟨g, k, none⟩ = some x := by
  have := h.cells (g := g) rfl k x hx
  have hadd : (⟨g, 0, none⟩ : Addr).add k = ⟨g, k, none⟩ := by unfold Addr.add; split <;> simp_all
  rwa [hadd] at this
set_option maxRecDepth 20000 in
set_option maxHeartbeats 4000000 in
theorem rnames_any (i : Nat) (hi : i < 5) (w : World) :
    Calls Tryz.prog 81 #[.int .i64 (i : Nat)] w fun e w' => (∃ v, e = .returned v ∧ w'.ownsRow w.heap.size 9 1 v (nsx i).length (strs (nsx i))) ∧ Below w.heap.size w w' := by
  have : i = 0 ∨ i = 1 ∨ i = 2 ∨ i = 3 ∨ i = 4 := by omega
  rcases this with rfl | rfl | rfl | rfl | rfl
  all_goals
    go_enter Tryz.func81, Tryz.ntmps81
    go_wp2_with fail
    go_ret
    first
      | exact ⟨⟨_, rfl, World.ownsRow_nil _ _ _ _⟩, Below.refl _ _⟩
      | exact ⟨⟨_, rfl, own_made (xs := strs (nsx 3)) (by decide)⟩, (Below.refl _ _).alloc (Nat.le_refl _) _⟩
      | exact ⟨⟨_, rfl, own_made (xs := strs (nsx 4)) (by decide)⟩, (Below.refl _ _).alloc (Nat.le_refl _) _⟩
/-- a number, or below 0 -/
def nI (f : Fd) (s : L) : Int := if (numT f s).2 = true then ((numT f s).1 : Nat) else -1
def dI (s : L) : Int := if (dgT s).2 = true then ((dgT s).1 : Nat) else -1
set_option maxRecDepth 20000 in
set_option maxHeartbeats 8000000 in
theorem rnumber_any (i : Nat) (hi : i < 5) (s : L) (hs : s.length ≤ 1000) (w : World) :
    Calls Tryz.prog 60 #[.int .i64 (i : Nat), S s] w fun e w' => e = .returned (.int .i64 (nI (fds i) s)) ∧ Below w.heap.size w w' := by
  have hz := size_S s
  have hsI : ((s.length : Nat) : Int) ≤ 1000 := by omega
  have hnm := rnames_any i hi w
  have HN := Lib.hid hnm
  have HI := Lib.hid hi
  clear hnm hi
  obtain ⟨R, hR⟩ : ∃ R, R = nI (fds i) s := ⟨_, rfl⟩
  rw [← hR]
  have HR := Lib.hid hR
  clear hR
  go_enter Tryz.func60, Tryz.ntmps60
  go_wp2_with fail
  refine HN.out.mono ?_
  rintro e w1 ⟨⟨v, rfl, hown⟩, hb⟩
  have hlen : (nsx i).length ≤ 13 := by
    have := HI.out
    have : i = 0 ∨ i = 1 ∨ i = 2 ∨ i = 3 ∨ i = 4 := by omega
    rcases this with rfl | rfl | rfl | rfl | rfl <;> decide
  obtain ⟨n, hn⟩ : ∃ n, n = (nsx i).length := ⟨_, rfl⟩
  rw [← hn] at hown hlen
  obtain ⟨ao, cp, rfl⟩ : ∃ ao cp, v = .slice ao n cp := by
    rcases hown.2 with ⟨rfl, h9⟩ | ⟨g, cap, cur, rfl, _⟩
    · exact ⟨_, _, by rw [h9]⟩
    · exact ⟨_, _, rfl⟩
  have HO := Lib.hid (And.intro hown (And.intro hn hb))
  clear hown hn hb
  go_wp2_with fail
  go_loopw [12] (fun x wr => ∃ k : Nat, x = .int .i64 (k : Nat) ∧ k ≤ n ∧ (∀ (j : Nat) (x : L), j < k → (nsx i)[j]? = some x → x = [] ∨ x ≠ s) ∧ wr = w1) (fun x _ => 20 - (RowKit.intOf x).toNat)
  case atStart => exact ⟨0, rfl, Nat.zero_le _, fun j x h => absurd h (Nat.not_lt_zero j), rfl⟩
  case round =>
    obtain ⟨k, rfl, hk, hno, rfl⟩ := hrel
    have HK := Lib.hid hno
    clear hno
    by_cases hlt : k < n
    · have hltI : ((k : Nat) : Int) < ((n : Nat) : Int) := by omega
      obtain ⟨x, hx⟩ : ∃ x, (nsx i)[k]? = some x := by rw [List.getElem?_eq_getElem (by rw [← HO.out.2.1]; exact hlt)]; exact ⟨_, rfl⟩
      obtain ⟨g, rfl⟩ : ∃ g, ao = some ⟨g, 0, none⟩ := by
        rcases HO.out.1.2 with ⟨h1, h9⟩ | ⟨g, cap, cur, h1, _⟩
        · omega
        · cases h1; exact ⟨_, rfl⟩
      have hcell : wr.cell? ⟨g, k, none⟩ = some (S x) := row_at HO.out.1 (by rw [List.getElem?_map, hx]; rfl)
      have HX := Lib.hid hx
      clear hx
      by_cases h0 : x = []
      · subst h0
        by_cases hse : s = []
        · have h1 : (([] : L) == s) = true := by simpa using hse
          go_wp2_with fail
          all_goals
            refine ⟨⟨k + 1, by simp, by omega, ?_, trivial⟩, by simp [RowKit.intOf]; omega⟩
            intro j y hj hy
            by_cases hjk : j = k
            · subst hjk; rw [HX.out] at hy; exact .inl (Option.some.inj hy).symm
            · exact HK.out j y (by omega) hy
        · have h1 : (([] : L) == s) = false := by simpa using hse
          go_wp2_with fail
          all_goals
            refine ⟨⟨k + 1, by simp, by omega, ?_, trivial⟩, by simp [RowKit.intOf]; omega⟩
            intro j y hj hy
            by_cases hjk : j = k
            · subst hjk; rw [HX.out] at hy; exact .inl (Option.some.inj hy).symm
            · exact HK.out j y (by omega) hy
      · by_cases he : x = s
        · subst he
          have hie : x.isEmpty = false := by cases x <;> simp_all
          have hnum := nsx_hit HI.out HX.out h0
          have HM := Lib.hid hnum
          clear hnum h0
          go_wp2_with fail
          go_ret
          exact ⟨by rw [HR.out]; unfold nI; rw [HM.out]; rfl, HO.out.2.2⟩
        · have hb1 : (x == s) = false := by simpa using he
          have hie : x.isEmpty = false := by cases x <;> simp_all
          have HE := Lib.hid he
          clear he h0
          go_wp2_with fail
          refine ⟨⟨k + 1, by simp, by omega, ?_, trivial⟩, by simp [RowKit.intOf]; omega⟩
          intro j y hj hy
          by_cases hjk : j = k
          · subst hjk; rw [HX.out] at hy; exact .inr (by rw [← Option.some.inj hy]; exact HE.out)
          · exact HK.out j y (by omega) hy
    · have hkn : k = n := by omega
      have hltI : ¬ ((k : Nat) : Int) < ((n : Nat) : Int) := by omega
      have hR2 : R = dI s := by
        rw [HR.out]
        unfold nI dI
        rw [nsx_miss HI.out fun j x hx => HK.out j x (by rw [hkn, HO.out.2.1]; exact (List.getElem?_eq_some_iff.1 hx).1) hx]
      have HR2 := Lib.hid hR2
      clear hR2 hkn hlt
      by_cases h1 : s.length < 1 ∨ 2 < s.length
      · have hbad : dI s = -1 := by unfold dI; rw [dgT_len (by omega) (by omega)]; rfl
        have HB := Lib.hid hbad
        clear hbad
        rcases (show ((s.length : Nat) : Int) < 1 ∨ (1 ≤ ((s.length : Nat) : Int) ∧ (2 : Int) < ((s.length : Nat) : Int)) by omega) with h | ⟨h, h'⟩
        all_goals
          clear h1
          go_wp2_with fail
          go_ret
          exact ⟨by rw [HR2.out, HB.out]; rfl, HO.out.2.2⟩
      · have l1 : 1 ≤ ((s.length : Nat) : Int) := by omega
        have l2 : ((s.length : Nat) : Int) ≤ 2 := by omega
        go_wp2_with fail
        go_loopw [7, 8] (fun x y w9 => ∃ k : Nat, x = .int .i64 (val (s.take k) : Nat) ∧ y = .int .i64 (k : Nat) ∧ k ≤ s.length ∧ (s.take k).all isD = true ∧ w9 = wr) (fun _ y _ => 2 - (RowKit.intOf y).toNat)
        case atStart => exact ⟨0, rfl, rfl, Nat.zero_le _, rfl, rfl⟩
        case round =>
          obtain ⟨k, rfl, rfl, hk, ha, rfl⟩ := hrel
          have hv := val_le (l := s.take k) (by rw [List.length_take]; omega) ha
          by_cases hlt : k < s.length
          · have hkI : ((k : Nat) : Int) < ((s.length : Nat) : Int) := by omega
            have hkb : (0 : Int) ≤ (k : Nat) ∧ ((k : Nat) : Int) < ((⟨s.toArray⟩ : ByteArray).size : Nat) := by rw [size_S]; omega
            obtain ⟨b, hb⟩ : ∃ b, s[k] = b := ⟨_, rfl⟩
            have hbb : (⟨s.toArray⟩ : ByteArray)[k]'(by rw [size_S]; exact hlt) = b := hb
            have hb8 := b.toNat_lt
            have hget : s[k]? = some b := by rw [List.getElem?_eq_getElem hlt, hb]
            have HG := Lib.hid (And.intro hget (And.intro ha hlt))
            clear hget ha hb
            obtain ⟨V, hV⟩ : ∃ V, V = val (s.take k) := ⟨_, rfl⟩
            rw [← hV] at hv ⊢
            have HV := Lib.hid hV
            clear hV
            by_cases hd : isD b = true
            · obtain ⟨d1, d2⟩ := (isD_iff b).1 hd
              have HD := Lib.hid hd
              clear hd
              go_wp2_with fail
              refine ⟨⟨k + 1, ?_, by simp, by omega, ?_, trivial⟩, by simp [RowKit.intOf]; omega⟩
              · rw [List.take_add_one, HG.out.1]
                simp only [Option.toList]
                rw [val_snoc, ← HV.out]
                exact congrArg (Value.int .i64) (by omega)
              · rw [List.take_add_one, HG.out.1]
                simp only [Option.toList, List.all_append, HG.out.2.1, Bool.true_and]
                simp [HD.out]
            · have hd' : b.toNat < 48 ∨ (48 ≤ b.toNat ∧ 57 < b.toNat) := by rw [isD_iff] at hd; omega
              have hres : dI s = -1 := by unfold dI; rw [dgT_bad HG.out.1 (Bool.eq_false_iff.2 hd)]; rfl
              have HB := Lib.hid hres
              clear hd hres
              rcases hd' with h | ⟨h, h'⟩
              all_goals
                go_wp2_with fail
                go_ret
                exact ⟨by rw [HR2.out, HB.out]; rfl, HO.out.2.2⟩
          · have hkN : k = s.length := by omega
            have hkI : ¬ ((k : Nat) : Int) < ((s.length : Nat) : Int) := by omega
            rw [hkN, List.take_length] at ha
            have hres : dI s = (val s : Nat) := by unfold dI; rw [dgT_val (by omega) ha]; rfl
            have e1 : val (s.take k) = val s := by rw [hkN, List.take_length]
            rw [e1]
            have HB := Lib.hid hres
            clear e1 hkN hres ha hv
            go_wp2_with fail
            go_ret
            exact ⟨by rw [HR2.out, HB.out]; rfl, HO.out.2.2⟩
end Go.Proofs.YtkkanggkbbmfnaaGreatDoor.Cn

/- plain mathematics: a part that is right, as the document's answer takes it apart -/
namespace Go.Proofs.YtkkanggkbbmfnaaGreatDoor.Cn
open Go.RowKit Go.Lib
set_option linter.unusedVariables false

/-- two ends: a star, or two numbers -/
def Ends (f : Fd) (A : L) (x y : Nat) : Prop := (A = [42] ∧ x = f.lo ∧ y = f.hi) ∨ (A ≠ [42] ∧ ∃ m, fi 45 A = some m ∧ numT f (A.take m) = (x, true) ∧ numT f (A.drop (m + 1)) = (y, true))
theorem ends_of {f : Fd} {A : L} {p : Pt} (h : spanT f A = (p, true)) : Ends f A p.1 p.2.1 ∧ p.2.2 = 1 := by
  unfold spanT at h
  by_cases hA : A = [42]
  · rw [if_pos hA] at h
    have := (Prod.mk.inj h).1
    subst this
    exact ⟨.inl ⟨hA, rfl, rfl⟩, rfl⟩
  · rw [if_neg hA] at h
    obtain ⟨h1, h2⟩ := Prod.mk.inj h
    rw [Bool.and_eq_true] at h2
    subst h1
    refine ⟨.inr ⟨hA, ?_⟩, rfl⟩
    unfold ct at h2 ⊢
    cases hf : fi 45 A with
    | none =>
      rw [hf] at h2
      have h3 := h2.2
      have e : numT f [] = (0, false) := by rw [numT_none (nmI_len (by decide))]; rfl
      rw [e] at h3; cases h3
    | some m =>
      rw [hf] at h2
      exact ⟨m, rfl, Prod.ext rfl h2.1, Prod.ext rfl h2.2⟩
theorem num_chars {f : Fd} {i : Nat} (hf : f = fds i) {s : L} {n : Nat} (h : numT f s = (n, true)) : ∀ b ∈ s, isD b = true ∨ (97 ≤ b.toNat ∧ b.toNat ≤ 122) := by
  unfold numT at h
  cases e : nmI s f.nm with
  | some k =>
    obtain ⟨h1, h2⟩ := nmI_at e
    intro b hb
    right
    have hb2 : b ∈ f.nm := by
      rw [h1] at hb
      exact List.mem_of_mem_drop (List.mem_of_mem_take hb)
    have key : ∀ i, ∀ b ∈ (fds i).nm, 97 ≤ b.toNat ∧ b.toNat ≤ 122 := by
      intro i
      match i with
      | 0 => decide
      | 1 => decide
      | 2 => decide
      | 3 => decide
      | n + 4 => show ∀ b ∈ (fds 4).nm, _; decide
    rw [hf] at hb2
    exact key i b hb2
  | none =>
    rw [e] at h
    match s, h with
    | [], h => cases h
    | [a], h =>
      intro b hb
      left
      rw [List.mem_singleton.1 hb]
      dsimp only [dgT] at h
      split at h
      · assumption
      · cases h
    | [a, c], h =>
      intro b hb
      left
      dsimp only [dgT] at h
      split at h
      · rename_i h2
        rw [Bool.and_eq_true] at h2
        rcases List.mem_cons.1 hb with rfl | hb
        · exact h2.1
        · rw [List.mem_singleton.1 hb]; exact h2.2
      · cases h
    | a :: c :: d :: r, h => cases h
theorem num_free {i : Nat} {s : L} {n : Nat} (h : numT (fds i) s = (n, true)) : fi 47 s = none ∧ fi 45 s = none ∧ s ≠ [42] := by
  have hc := num_chars rfl h
  refine ⟨fi_none.2 fun hm => ?_, fi_none.2 fun hm => ?_, fun e => ?_⟩
  · rcases hc _ hm with h1 | h1
    · revert h1; decide
    · revert h1; decide
  · rcases hc _ hm with h1 | h1
    · revert h1; decide
    · revert h1; decide
  · rcases hc 42 (by rw [e]; exact List.mem_cons_self) with h1 | h1
    · revert h1; decide
    · revert h1; decide
/-- a part that is right -/
inductive Form (f : Fd) (s : L) (p : Pt) : Prop
  | num (n : Nat) (h : numT f s = (n, true)) (h1 : fi 47 s = none) (h2 : fi 45 s = none) (h3 : s ≠ [42]) (hp : p = (n, n, 1))
  | span (h1 : fi 47 s = none) (h : Ends f s p.1 p.2.1) (hp : p.2.2 = 1)
  | step (k : Nat) (h1 : fi 47 s = some k) (h : Ends f (s.take k) p.1 p.2.1) (h2 : dgT (s.drop (k + 1)) = (p.2.2, true))
theorem form_of {i : Nat} {s : L} (h : errP (fds i) s = 0) : Form (fds i) s (readT (fds i) s).1 := by
  have hr : (readT (fds i) s).2 = true := by
    unfold errP at h
    split at h
    · assumption
    · cases h
  obtain ⟨p, hp⟩ : ∃ p, readT (fds i) s = (p, true) := ⟨_, Prod.ext rfl hr⟩
  rw [hp]
  unfold readT at hp
  by_cases hn : (numT (fds i) s).2 = true
  · rw [if_pos hn] at hp
    have hn2 : numT (fds i) s = ((numT (fds i) s).1, true) := Prod.ext rfl hn
    obtain ⟨h1, h2, h3⟩ := num_free hn2
    exact .num _ hn2 h1 h2 h3 (Prod.mk.inj hp).1.symm
  · rw [if_neg hn] at hp
    unfold ct at hp
    cases hf : fi 47 s with
    | none =>
      rw [hf] at hp
      simp only [Bool.and_false, Bool.false_eq_true, if_false] at hp
      obtain ⟨h1, h2⟩ := ends_of hp
      exact .span hf h1 h2
    | some k =>
      rw [hf] at hp
      simp only [Bool.and_true] at hp
      by_cases ho : (spanT (fds i) (s.take k)).2 = true
      · rw [if_pos ho] at hp
        obtain ⟨h1, h2⟩ := Prod.mk.inj hp
        obtain ⟨h3, h4⟩ := ends_of (Prod.ext rfl ho : spanT (fds i) (s.take k) = ((spanT (fds i) (s.take k)).1, true))
        subst h1
        exact .step k hf h3 (Prod.ext rfl h2)
      · rw [if_neg ho] at hp
        exact absurd (congrArg Prod.snd hp) (by simpa using ho)
theorem nI_of {f : Fd} {s : L} {n : Nat} (h : numT f s = (n, true)) : nI f s = (n : Nat) := by unfold nI; rw [h]; rfl
theorem nI_dg {s : L} {n : Nat} (h : dgT s = (n, true)) : nI (fds 0) s = (n : Nat) := nI_of ((numT_none (f := fds 0) (s := s) (by cases s <;> rfl)).trans h)
/-- each so-manieth number -/
def vals (x d k : Nat) : List Nat := (List.range k).map fun j => x + j * d
theorem vals_next (x d k : Nat) : vals x d (k + 1) = vals x d k ++ [x + k * d] := by unfold vals; rw [List.range_succ, List.map_append]; rfl
theorem vals_mem {x y d k : Nat} (hd : 1 ≤ d) (h1 : y < x + k * d) (h2 : ∀ j, j < k → x + j * d ≤ y) (z : Nat) : z ∈ vals x d k ↔ inP (x, y, d) z = true := by
  unfold vals inP
  simp only [List.mem_map, List.mem_range, Bool.and_eq_true, decide_eq_true_eq]
  constructor
  · rintro ⟨j, hj, rfl⟩
    refine ⟨⟨Nat.le_add_right _ _, h2 j hj⟩, ?_⟩
    rw [Nat.add_sub_cancel_left, Nat.mul_mod_left]
  · rintro ⟨⟨h3, h4⟩, h5⟩
    refine ⟨(z - x) / d, ?_, ?_⟩
    · rw [Nat.div_lt_iff_lt_mul (by omega)]; omega
    · have := Nat.div_add_mod (z - x) d
      rw [h5, Nat.add_zero, Nat.mul_comm] at this
      omega
end Go.Proofs.YtkkanggkbbmfnaaGreatDoor.Cn

/- plain mathematics: any part's error, as the document's answer finds it -/
namespace Go.Proofs.YtkkanggkbbmfnaaGreatDoor.Cn
open Go.RowKit Go.Lib
set_option linter.unusedVariables false

/-- the ends that are found in a text without a step, and whether there are two -/
def eI (f : Fd) (A : L) : Int × Int × Bool :=
  if A = [42] then (((f.lo : Nat) : Int), ((f.hi : Nat) : Int), true) else match fi 45 A with
    | some m => (nI f (A.take m), nI f (A.drop (m + 1)), true)
    | none => (nI f A, nI f A, false)
/-- what is wrong: ends X and Y, step D -/
def errI (f : Fd) (X Y D : Int) (ok : Bool) : Nat :=
  if ok = false ∨ X < 0 ∨ Y < 0 then 2 else if X < ((f.lo : Nat) : Int) ∨ ((f.hi : Nat) : Int) < Y ∨ Y < X ∨ D < 1 ∨ 60 < D then 3 else 0
theorem nI_cases (f : Fd) (s : L) : (∃ n, numT f s = (n, true) ∧ nI f s = ((n : Nat) : Int)) ∨ ((numT f s).2 = false ∧ nI f s = -1) := by
  unfold nI
  cases h : (numT f s).2 with
  | true => exact .inl ⟨(numT f s).1, Prod.ext rfl h, by rw [if_pos rfl]⟩
  | false => exact .inr ⟨rfl, by rw [if_neg (by simp)]⟩
theorem may_err {f : Fd} {x y d : Nat} : (if mayB f (x, y, d) = true then 0 else 3) = errI f x y d true := by
  unfold mayB errI
  have h0 : ¬ (true = false ∨ ((x : Nat) : Int) < 0 ∨ ((y : Nat) : Int) < 0) := fun h => by
    rcases h with h | h | h
    · cases h
    · omega
    · omega
  rw [if_neg h0]
  by_cases h : f.lo ≤ x ∧ x ≤ y ∧ y ≤ f.hi ∧ 1 ≤ d ∧ d ≤ 60
  · rw [if_pos (by simp only [Bool.and_eq_true, decide_eq_true_eq]; omega), if_neg (by omega)]
  · rw [if_neg (by simp only [Bool.and_eq_true, decide_eq_true_eq]; omega), if_pos (by omega)]
theorem errI_form {f : Fd} {X Y D : Int} {ok : Bool} (h : ok = false ∨ X < 0 ∨ Y < 0) : errI f X Y D ok = 2 := by unfold errI; rw [if_pos h]
/-- the ends, and whether they are right -/
theorem span_eI {i : Nat} (A : L) (hn : A = [42] ∨ (∃ m, fi 45 A = some m) ∨ True) : 
    ((spanT (fds i) A).2 = true ∧ (eI (fds i) A).2.2 = true ∧ (eI (fds i) A).1 = (((spanT (fds i) A).1.1 : Nat) : Int) ∧ (eI (fds i) A).2.1 = (((spanT (fds i) A).1.2.1 : Nat) : Int) ∧ (spanT (fds i) A).1.2.2 = 1) ∨
    ((spanT (fds i) A).2 = false ∧ ((eI (fds i) A).2.2 = false ∨ (eI (fds i) A).1 < 0 ∨ (eI (fds i) A).2.1 < 0)) := by
  unfold spanT eI
  by_cases hA : A = [42]
  · rw [if_pos hA, if_pos hA]; exact .inl ⟨rfl, rfl, rfl, rfl, rfl⟩
  · rw [if_neg hA, if_neg hA]
    unfold ct
    cases hf : fi 45 A with
    | none =>
      right
      have e : (numT (fds i) []).2 = false := by rw [numT_none (nmI_len (by decide))]; rfl
      dsimp only
      rw [e, Bool.and_false]
      exact ⟨rfl, .inl rfl⟩
    | some m =>
      dsimp only
      rcases nI_cases (fds i) (A.take m) with ⟨n, h1, h2⟩ | ⟨h1, h2⟩
      · rcases nI_cases (fds i) (A.drop (m + 1)) with ⟨k, h3, h4⟩ | ⟨h3, h4⟩
        · rw [h1, h3, h2, h4]; exact .inl ⟨rfl, rfl, rfl, rfl, rfl⟩
        · rw [h3, Bool.and_false, h4]; exact .inr ⟨rfl, .inr (.inr (by decide))⟩
      · rw [h1, Bool.false_and, h2]; exact .inr ⟨rfl, .inr (.inl (by decide))⟩
theorem err_plain {i : Nat} {s : L} (h : fi 47 s = none) : errP (fds i) s = errI (fds i) (eI (fds i) s).1 (eI (fds i) s).2.1 1 true := by
  rcases nI_cases (fds i) s with ⟨n, h1, h2⟩ | ⟨h1, h2⟩
  · obtain ⟨_, h4, h5⟩ := num_free h1
    have e1 : readT (fds i) s = ((n, n, 1), true) := by unfold readT; rw [h1]; rfl
    have e2 : eI (fds i) s = (((n : Nat) : Int), ((n : Nat) : Int), false) := by unfold eI; rw [if_neg h5, h4, h2]
    unfold errP
    rw [e1, e2, if_pos rfl]
    exact may_err
  · have e1 : readT (fds i) s = spanT (fds i) s := by
      unfold readT
      rw [h1, if_neg (by simp)]
      unfold ct
      rw [h]
      dsimp only
      rw [Bool.and_false, if_neg (by simp)]
    unfold errP
    rw [e1]
    rcases span_eI (i := i) s (.inr (.inr trivial)) with ⟨g1, g2, g3, g4, g5⟩ | ⟨g1, g2⟩
    · rw [g1, if_pos rfl, g3, g4]
      have := may_err (f := fds i) (x := (spanT (fds i) s).1.1) (y := (spanT (fds i) s).1.2.1) (d := 1)
      rw [← g5] at this
      have e : (((spanT (fds i) s).1.2.2 : Nat) : Int) = 1 := by rw [g5]; rfl
      rw [e] at this
      exact this
    · rw [g1, if_neg (by simp)]
      refine (errI_form ?_).symm
      rcases g2 with g2 | g2
      · unfold eI at g2 ⊢
        by_cases hA : s = [42]
        · rw [if_pos hA] at g2; cases g2
        · rw [if_neg hA] at g2 ⊢
          cases hf : fi 45 s with
          | some m => rw [hf] at g2; cases g2
          | none => dsimp only; rw [h2]; exact .inr (.inl (by decide))
      · exact .inr g2
theorem err_step {i k : Nat} {s : L} (h : fi 47 s = some k) : errP (fds i) s = errI (fds i) (eI (fds i) (s.take k)).1 (eI (fds i) (s.take k)).2.1 (nI (fds 0) (s.drop (k + 1))) (decide (0 ≤ nI (fds 0) (s.drop (k + 1))) && (eI (fds i) (s.take k)).2.2) := by
  have h1 : (numT (fds i) s).2 = false := by
    rcases nI_cases (fds i) s with ⟨n, h1, _⟩ | ⟨h1, _⟩
    · obtain ⟨h4, _, _⟩ := num_free h1; rw [h4] at h; cases h
    · exact h1
  have hd : (∃ n, dgT (s.drop (k + 1)) = (n, true) ∧ nI (fds 0) (s.drop (k + 1)) = ((n : Nat) : Int)) ∨ ((dgT (s.drop (k + 1))).2 = false ∧ nI (fds 0) (s.drop (k + 1)) = -1) := by
    have e : numT (fds 0) (s.drop (k + 1)) = dgT (s.drop (k + 1)) := numT_none (f := fds 0) (by cases (s.drop (k + 1)) <;> rfl)
    have := nI_cases (fds 0) (s.drop (k + 1))
    rw [e] at this
    exact this
  have e1 : readT (fds i) s = if (spanT (fds i) (s.take k)).2 = true then (((spanT (fds i) (s.take k)).1.1, (spanT (fds i) (s.take k)).1.2.1, (dgT (s.drop (k + 1))).1), (dgT (s.drop (k + 1))).2) else spanT (fds i) (s.take k) := by
    unfold readT
    rw [h1, if_neg (by simp)]
    unfold ct
    rw [h]
    dsimp only
    rw [Bool.and_true]
  unfold errP
  rw [e1]
  rcases span_eI (i := i) (s.take k) (.inr (.inr trivial)) with ⟨g1, g2, g3, g4, g5⟩ | ⟨g1, g2⟩
  · rw [if_pos g1, g2, g3, g4, Bool.and_true]
    dsimp only
    rcases hd with ⟨n, h3, h4⟩ | ⟨h3, h4⟩
    · rw [h3, h4, if_pos rfl, decide_eq_true (by omega)]
      exact may_err
    · rw [h3, h4, if_neg (by simp)]
      exact (errI_form (.inl (by decide))).symm
  · have e2 : ¬ (spanT (fds i) (s.take k)).2 = true := by rw [g1]; simp
    rw [if_neg e2, if_neg e2]
    refine (errI_form ?_).symm
    rcases g2 with g2 | g2
    · rw [g2, Bool.and_false]; exact .inl rfl
    · exact .inr g2
/-- which of the tests is the first that fails -/
theorem errI_ways {f : Fd} {X Y D : Int} {ok : Bool} {E : Nat} (h : errI f X Y D ok = E) (h0 : E ≠ 0) :
    (E = 2 ∧ (ok = false ∨ (ok = true ∧ X < 0) ∨ (ok = true ∧ 0 ≤ X ∧ Y < 0))) ∨
    (E = 3 ∧ ok = true ∧ 0 ≤ X ∧ 0 ≤ Y ∧ (X < ((f.lo : Nat) : Int) ∨ (((f.lo : Nat) : Int) ≤ X ∧ ((f.hi : Nat) : Int) < Y) ∨ (((f.lo : Nat) : Int) ≤ X ∧ Y ≤ ((f.hi : Nat) : Int) ∧ Y < X) ∨
      (((f.lo : Nat) : Int) ≤ X ∧ Y ≤ ((f.hi : Nat) : Int) ∧ X ≤ Y ∧ D < 1) ∨ (((f.lo : Nat) : Int) ≤ X ∧ Y ≤ ((f.hi : Nat) : Int) ∧ X ≤ Y ∧ 1 ≤ D ∧ 60 < D))) := by
  unfold errI at h
  split at h
  · rename_i h1
    refine .inl ⟨h.symm, ?_⟩
    cases ok
    · exact .inl rfl
    · rcases h1 with h1 | h1 | h1
      · cases h1
      · exact .inr (.inl ⟨rfl, h1⟩)
      · by_cases hx : X < 0
        · exact .inr (.inl ⟨rfl, hx⟩)
        · exact .inr (.inr ⟨rfl, by omega, h1⟩)
  · rename_i h1
    split at h
    · rename_i h2
      refine .inr ⟨h.symm, ?_, by omega, by omega, by omega⟩
      cases ok
      · exact absurd (.inl rfl) h1
      · rfl
    · exact absurd h.symm h0
end Go.Proofs.YtkkanggkbbmfnaaGreatDoor.Cn

/- the document's answer for an expression: a part that is right -/
namespace Go.Proofs.YtkkanggkbbmfnaaGreatDoor.Cn
open Go.RowKit Go.Lib Go.Proofs.YtkkanggkbbmfnaaGreatDoor.Ht
set_option linter.unusedVariables false
set_option linter.unusedSimpArgs false

abbrev ints (l : List Nat) : List Value := l.map fun n => .int .i64 (n : Nat)
theorem info3 : (Tryz.prog.info? 3).map (fun i => (i.zero, i.size, i.bytes)) = some (some (.int .i64 0), 1, 8) := by kernel_rfl
/-- what is told of a part: its values -/
def TellsP (p : Pt) (w : World) (e : Ending) (w' : World) : Prop :=
  (∃ v k, e = .returned (.tuple #[v, .int .i64 0]) ∧ w'.ownsRow w.heap.size 3 1 v k (ints (vals p.1 p.2.2 k)) ∧ k ≤ 60 ∧ ∀ z, z ∈ vals p.1 p.2.2 k ↔ inP p z = true) ∧ Below w.heap.size w w'
theorem fiI_some {c : UInt8} {l : L} {k : Nat} (h : fi c l = some k) : fiI c l = (k : Nat) := by unfold fiI; rw [h]
theorem fiI_none {c : UInt8} {l : L} (h : fi c l = none) : fiI c l = -1 := by unfold fiI; rw [h]
set_option maxRecDepth 20000 in
set_option maxHeartbeats 16000000 in
theorem rpart_any (i : Nat) (hi : i < 5) (s : L) (hs : s.length ≤ 1000) (h : errP (fds i) s = 0) (w : World) :
    Calls Tryz.prog 38 #[.int .i64 (i : Nat), S s] w (TellsP (readT (fds i) s).1 w) := by
  have hform := form_of h
  obtain ⟨q1, q2, q3, q4⟩ := part_in h
  have q5 : (readT (fds i) s).1.2.2 ≤ 60 := by
    unfold errP at h
    split at h
    · split at h
      · rename_i hm
        unfold mayB at hm
        simp only [Bool.and_eq_true, decide_eq_true_eq] at hm
        exact hm.2
      · cases h
    · cases h
  obtain ⟨⟨x, y, d⟩, hp⟩ : ∃ p, p = (readT (fds i) s).1 := ⟨_, rfl⟩
  rw [← hp] at hform q1 q2 q3 q4 q5 ⊢
  dsimp only at q1 q2 q3 q4 q5
  clear hp h
  have hh := (fds_ok i).hi
  have hll := (fds_ok i).lo
  obtain ⟨i0, hi0, hz0, hz1, hz2⟩ := info_parts info3
  have hz := size_S s
  have hmix : Tryz.prog.follows .mixedOrders = true := by kernel_rfl
  have HB := Lib.hid (bounds_any i hi w)
  have hnum := fun (t : L) (ht : t.length ≤ 1000) (W : World) => rnumber_any i hi t ht W
  have hnum0 : ∀ (t : L) (d : Nat) (ht : t.length ≤ 1000), dgT t = (d, true) → ∀ W : World, Calls Tryz.prog 60 #[.int .i64 0, S t] W fun e w' => e = .returned (.int .i64 (d : Nat)) ∧ Below W.heap.size W w' := fun t d ht hd W => by
    have := rnumber_any 0 (by decide) t ht W
    rw [nI_dg hd] at this
    exact this
  obtain ⟨lo, hlo⟩ : ∃ x, x = (fds i).lo := ⟨_, rfl⟩
  obtain ⟨hi', hhi⟩ : ∃ x, x = (fds i).hi := ⟨_, rfl⟩
  have HH := Lib.hid (And.intro hnum (And.intro hnum0 (And.intro hlo hhi)))
  rw [← hlo] at HB q1 hll; rw [← hhi] at HB q3 hh
  clear hnum hnum0 hlo hhi hi
  have hsI : ((s.length : Nat) : Int) ≤ 1000 := by omega
  go_enter Tryz.func38, Tryz.ntmps38
  go_wp2_with fail
  refine HB.out.mono ?_
  rintro e w1 ⟨rfl, hb1⟩
  have H1 := Lib.hid hb1
  clear hb1
  go_wp2_with fail
  refine (rat_any s hs 47 w1).mono ?_
  rintro e w2 ⟨rfl, rfl⟩
  rcases hform with ⟨n, f1, f2, f3, f4, f5⟩ | ⟨f1, f2, f3⟩ | ⟨k, f1, f2, f3⟩
  · -- NUM
    cases f5
    have hA := fiI_none f2
    rw [hA]
    go_wp2_with fail
    refine (rat_any s hs 45 w2).mono ?_
    rintro e w3 ⟨rfl, rfl⟩
    rw [fiI_none f3]
    have hstar : (s == [42]) = false := by simpa using f4
    have hn := HH.out.1 s hs w3
    rw [nI_of f1] at hn
    have HN := Lib.hid hn
    clear hn f1 f2 f3 f4 hA
    go_wp2_with fail
    refine HN.out.mono ?_
    rintro e w4 ⟨rfl, hb⟩
    have HW := Lib.hid (H1.out.trans (hb.mono H1.out.size))
    clear hb
    have Q1 : ((lo : Nat) : Int) ≤ ((x : Nat) : Int) := by omega
    have Q2 : ((x : Nat) : Int) ≤ ((x : Nat) : Int) := by omega
    have Q3 : ((x : Nat) : Int) ≤ ((hi' : Nat) : Int) := by omega
    have Q4 : (1 : Int) ≤ ((1 : Nat) : Int) := by omega
    have Q5 : ((1 : Nat) : Int) ≤ 60 := by omega
    go_wp2_with fail
    simp only [show decide (x < lo) = false from decide_eq_false (by omega), show decide (hi' < x) = false from decide_eq_false (by omega), show decide (x < x) = false from decide_eq_false (by omega), show decide (1 < 1) = false from decide_eq_false (by omega), show decide (60 < 1) = false from decide_eq_false (by omega), show decide (((1 : Nat) : Int) < 1) = false from decide_eq_false (by omega), show decide ((60 : Int) < ((1 : Nat) : Int)) = false from decide_eq_false (by omega), Bool.or_false, Bool.false_or]
    go_loopw [16, 15] (fun z v wr => ∃ k : Nat, z = .int .i64 ((x + k * 1 : Nat) : Int) ∧ k ≤ 60 ∧ (∀ j, j < k → x + j * 1 ≤ x) ∧ wr.ownsRow w.heap.size 3 1 v k (ints (vals x 1 k)) ∧ Below w.heap.size w wr) (fun z _ _ => 300 - (RowKit.intOf z).toNat)
    case atStart => exact ⟨0, by simp, by omega, fun j hj => absurd hj (Nat.not_lt_zero j), World.ownsRow_nil _ _ _ _, HW.out⟩
    case round =>
      obtain ⟨k, rfl, hk, hj, hown, hbel⟩ := hrel
      have hkd : k ≤ k * 1 := Nat.le_mul_of_pos_right k (by omega)
      have hks : x + (k + 1) * 1 = x + k * 1 + 1 := by rw [Nat.add_mul]; omega
      have HJ := Lib.hid (And.intro hj (And.intro hbel hks))
      clear hj hbel hks
      generalize hK : x + k * 1 = K at HJ
      have hkK : k ≤ K := by omega
      have HK := Lib.hid hK
      clear hK hkd
      by_cases hle : K ≤ x
      · have hleI : ((K : Nat) : Int) ≤ ((x : Nat) : Int) := by omega
        go_wp2_with (at_builtin; refine wpList_append_own _ rfl _ _ 70 rfl w.heap.size 3 i0 (.int .i64 0) 1 8 Tryz.underlying70 hi0 hz0 hz1 hz2 rfl (by decide) _ _ _ rfl (hown.alloc _) ⟨wr.heap.size, 0, none⟩ 1 1 [.int .i64 (K : Nat)] rfl rfl ?c1 ?c2 ?c3 ?c4 ?c5 ?_)
        case c1 =>
          intro j u hj
          match j, hj with
          | 0, hj => simp at hj; subst hj; simp [Addr.add]
        case c2 => intro u hu; simp at hu; subst hu; rfl
        case c3 => have : maxLen = 9223372036854775807 := rfl; omega
        case c4 => omega
        case c5 => have := HJ.out.2.1.size; first | omega | (simp; omega)
        intro v' w9 hown' hgrow _
        have hb9 : Below w.heap.size w w9 := (HJ.out.2.1.alloc HJ.out.2.1.size _).grown hgrow (by have := HJ.out.2.1.size; simp; omega) (fun g hg => (hown.lt g hg).1)
        obtain ⟨ao, cp, rfl⟩ : ∃ ao cp, v' = .slice ao (k + 1) cp := by
          rcases hown'.2 with ⟨rfl, h9⟩ | ⟨g, cap, cur, rfl, _⟩
          · omega
          · exact ⟨_, _, rfl⟩
        have HR := Lib.hid (And.intro hown' hb9)
        clear hown' hgrow hb9 hown
        go_wp2_with fail
        go_roundw
        case rel =>
          refine ⟨k + 1, ?_, by omega, ?_, ?_, HR.out.2⟩
          · rw [HJ.out.2.2]; exact congrArg (Value.int .i64) (by omega)
          · intro j hj'
            by_cases hjk : j = k
            · subst hjk; rw [HK.out]; exact hle
            · exact HJ.out.1 j (by omega)
          · have e1 : ints (vals x 1 (k + 1)) = ints (vals x 1 k) ++ [.int .i64 (K : Nat)] := by rw [vals_next, HK.out]; simp [ints]
            rw [e1]; exact HR.out.1
        case measure => simp [RowKit.intOf]; omega
      · have hleI : ¬ ((K : Nat) : Int) ≤ ((x : Nat) : Int) := by omega
        obtain ⟨ao, cp, rfl⟩ : ∃ ao cp, u15 = .slice ao k cp := by
          rcases hown.2 with ⟨rfl, h9⟩ | ⟨g, cap, cur, rfl, _⟩
          · exact ⟨_, _, by rw [h9]⟩
          · exact ⟨_, _, rfl⟩
        go_wp2_with fail
        go_ret2
        exact ⟨⟨_, k, rfl, hown, hk, vals_mem (by omega) (by rw [HK.out]; omega) HJ.out.1⟩, HJ.out.2.1⟩
  · -- SPAN
    obtain rfl : d = 1 := f3
    rw [fiI_none f1]
    clear f1
    rcases f2 with ⟨e1, e2, e3⟩ | ⟨e0, m, e1, e2, e3⟩
    · dsimp only at e2 e3
      rw [← HH.out.2.2.1] at e2
      rw [← HH.out.2.2.2] at e3
      subst e1
      subst e2
      subst e3
      go_wp2_with fail
      refine (rat_any [42] (by decide) 45 w2).mono ?_
      rintro e w3 ⟨rfl, rfl⟩
      rw [fiI_none (show fi 45 [42] = none by decide)]
      have HW := Lib.hid H1.out
      have Q1 : ((x : Nat) : Int) ≤ ((x : Nat) : Int) := by omega
      have Q2 : ((x : Nat) : Int) ≤ ((y : Nat) : Int) := by omega
      have Q3 : ((y : Nat) : Int) ≤ ((y : Nat) : Int) := by omega
      have Q4 : (1 : Int) ≤ ((1 : Nat) : Int) := by omega
      have Q5 : ((1 : Nat) : Int) ≤ 60 := by omega
      go_wp2_with fail
      simp only [show decide (x < x) = false from decide_eq_false (by omega), show decide (y < y) = false from decide_eq_false (by omega), show decide (y < x) = false from decide_eq_false (by omega), show decide (1 < 1) = false from decide_eq_false (by omega), show decide (60 < 1) = false from decide_eq_false (by omega), show decide (((1 : Nat) : Int) < 1) = false from decide_eq_false (by omega), show decide ((60 : Int) < ((1 : Nat) : Int)) = false from decide_eq_false (by omega), Bool.or_false, Bool.false_or]
      go_loopw [16, 15] (fun z v wr => ∃ k : Nat, z = .int .i64 ((x + k * 1 : Nat) : Int) ∧ k ≤ 60 ∧ (∀ j, j < k → x + j * 1 ≤ y) ∧ wr.ownsRow w.heap.size 3 1 v k (ints (vals x 1 k)) ∧ Below w.heap.size w wr) (fun z _ _ => 300 - (RowKit.intOf z).toNat)
      case atStart => exact ⟨0, by simp, by omega, fun j hj => absurd hj (Nat.not_lt_zero j), World.ownsRow_nil _ _ _ _, HW.out⟩
      case round =>
        obtain ⟨k, rfl, hk, hj, hown, hbel⟩ := hrel
        have hkd : k ≤ k * 1 := Nat.le_mul_of_pos_right k (by omega)
        have hks : x + (k + 1) * 1 = x + k * 1 + 1 := by rw [Nat.add_mul]; omega
        have HJ := Lib.hid (And.intro hj (And.intro hbel hks))
        clear hj hbel hks
        generalize hK : x + k * 1 = K at HJ
        have hkK : k ≤ K := by omega
        have HK := Lib.hid hK
        clear hK hkd
        by_cases hle : K ≤ y
        · have hleI : ((K : Nat) : Int) ≤ ((y : Nat) : Int) := by omega
          go_wp2_with (at_builtin; refine wpList_append_own _ rfl _ _ 70 rfl w.heap.size 3 i0 (.int .i64 0) 1 8 Tryz.underlying70 hi0 hz0 hz1 hz2 rfl (by decide) _ _ _ rfl (hown.alloc _) ⟨wr.heap.size, 0, none⟩ 1 1 [.int .i64 (K : Nat)] rfl rfl ?c1 ?c2 ?c3 ?c4 ?c5 ?_)
          case c1 =>
            intro j u hj
            match j, hj with
            | 0, hj => simp at hj; subst hj; simp [Addr.add]
          case c2 => intro u hu; simp at hu; subst hu; rfl
          case c3 => have : maxLen = 9223372036854775807 := rfl; omega
          case c4 => omega
          case c5 => have := HJ.out.2.1.size; first | omega | (simp; omega)
          intro v' w9 hown' hgrow _
          have hb9 : Below w.heap.size w w9 := (HJ.out.2.1.alloc HJ.out.2.1.size _).grown hgrow (by have := HJ.out.2.1.size; simp; omega) (fun g hg => (hown.lt g hg).1)
          obtain ⟨ao, cp, rfl⟩ : ∃ ao cp, v' = .slice ao (k + 1) cp := by
            rcases hown'.2 with ⟨rfl, h9⟩ | ⟨g, cap, cur, rfl, _⟩
            · omega
            · exact ⟨_, _, rfl⟩
          have HR := Lib.hid (And.intro hown' hb9)
          clear hown' hgrow hb9 hown
          go_wp2_with fail
          go_roundw
          case rel =>
            refine ⟨k + 1, ?_, by omega, ?_, ?_, HR.out.2⟩
            · rw [HJ.out.2.2]; exact congrArg (Value.int .i64) (by omega)
            · intro j hj'
              by_cases hjk : j = k
              · subst hjk; rw [HK.out]; exact hle
              · exact HJ.out.1 j (by omega)
            · have e1 : ints (vals x 1 (k + 1)) = ints (vals x 1 k) ++ [.int .i64 (K : Nat)] := by rw [vals_next, HK.out]; simp [ints]
              rw [e1]; exact HR.out.1
          case measure => simp [RowKit.intOf]; omega
        · have hleI : ¬ ((K : Nat) : Int) ≤ ((y : Nat) : Int) := by omega
          obtain ⟨ao, cp, rfl⟩ : ∃ ao cp, u15 = .slice ao k cp := by
            rcases hown.2 with ⟨rfl, h9⟩ | ⟨g, cap, cur, rfl, _⟩
            · exact ⟨_, _, by rw [h9]⟩
            · exact ⟨_, _, rfl⟩
          go_wp2_with fail
          go_ret2
          exact ⟨⟨_, k, rfl, hown, hk, vals_mem (by omega) (by rw [HK.out]; omega) HJ.out.1⟩, HJ.out.2.1⟩
    · dsimp only at e2 e3
      go_wp2_with fail
      refine (rat_any s hs 45 w2).mono ?_
      rintro e w3 ⟨rfl, rfl⟩
      rw [fiI_some e1]
      obtain ⟨g1, g2, g3⟩ := fi_some e1
      have hstar : (s == [42]) = false := by simpa using e0
      have hzA := size_S s
      have hsa : (⟨s.toArray⟩ : ByteArray).extract 0 m = ⟨(s.take m).toArray⟩ := by rw [sub_S]; simp
      have hsb : (⟨s.toArray⟩ : ByteArray).extract (m + 1) s.length = ⟨(s.drop (m + 1)).toArray⟩ := by rw [sub_S, List.take_of_length_le (by rw [List.length_drop]; omega)]
      have hm0 : ((m : Nat) : Int) ≤ ((s.length : Nat) : Int) := by omega
      have hm00 : (0 : Int) ≤ ((m : Nat) : Int) := by omega
      have hm1 : IntKind.i64.wrap (((m : Nat) : Int) + 1) = ((m : Nat) : Int) + 1 := IntWalk.i64_in _ (by omega)
      have hm2 : ((m : Nat) : Int) + 1 ≤ ((s.length : Nat) : Int) := by omega
      have hm3 : (0 : Int) ≤ ((m : Nat) : Int) + 1 := by omega
      have HX := Lib.hid (show (∀ W : World, Calls Tryz.prog 60 #[.int .i64 (i : Nat), S (s.take m)] W fun e w' => e = .returned (.int .i64 (x : Nat)) ∧ Below W.heap.size W w') ∧ (∀ W : World, Calls Tryz.prog 60 #[.int .i64 (i : Nat), S (s.drop (m + 1))] W fun e w' => e = .returned (.int .i64 (y : Nat)) ∧ Below W.heap.size W w') from
        ⟨fun W => by have := HH.out.1 (s.take m) (by rw [List.length_take]; omega) W; rw [nI_of e2] at this; exact this, fun W => by have := HH.out.1 (s.drop (m + 1)) (by rw [List.length_drop]; omega) W; rw [nI_of e3] at this; exact this⟩)
      clear g2 g3 e1 e2 e3 e0
      go_wp2_with fail
      refine begin' 13 (fun _ => True) hmix trivial (fun hS0 => ?_)
      refine Ht.takeN (i := 0) ⟨some 46, _, _, _, _, _⟩ (.int .i64 (i : Nat)) rfl (Nat.le_refl 13) (by kernel_rfl) (by kernel_rfl) (by kernel_rfl) (by kernel_rfl) hS0 (Or.inl ⟨by rfl, by (intro X hX; go_simp)⟩) ?_
      simp only [Act.put, List.setIfInBounds_toArray, List.set_cons_zero, List.set_cons_succ]
      refine Ht.takeN (i := 1) ⟨some 47, _, _, _, _, _⟩ (S s) rfl (Nat.le_refl 13) (by kernel_rfl) (by kernel_rfl) (by kernel_rfl) (by kernel_rfl) hS0 (Or.inl ⟨by rfl, by (intro X hX; go_simp)⟩) ?_
      simp only [Act.put, List.setIfInBounds_toArray, List.set_cons_zero, List.set_cons_succ]
      refine Ht.takeN (i := 2) ⟨some 48, _, _, _, _, _⟩ (.int .i64 (m : Nat)) rfl (Nat.le_refl 13) (by kernel_rfl) (by kernel_rfl) (by kernel_rfl) (by kernel_rfl) hS0 (Or.inl ⟨by rfl, by (intro X hX; go_simp)⟩) ?_
      simp only [Act.put, List.setIfInBounds_toArray, List.set_cons_zero, List.set_cons_succ]
      refine Ht.takeN (i := 3) ⟨some 49, _, _, _, _, _⟩ (S (s.take m)) rfl (Nat.le_refl 13) (by kernel_rfl) (by kernel_rfl) (by kernel_rfl) (by kernel_rfl) hS0 (Or.inl ⟨by rfl, by (intro X hX; have := And.intro hsa hm0; go_simp)⟩) ?_
      simp only [Act.put, List.setIfInBounds_toArray, List.set_cons_zero, List.set_cons_succ]
      refine Ht.takeN (i := 5) ⟨some 51, _, _, _, _, _⟩ (.int .i64 (i : Nat)) rfl (Nat.le_refl 13) (by kernel_rfl) (by kernel_rfl) (by kernel_rfl) (by kernel_rfl) hS0 (Or.inl ⟨by rfl, by (intro X hX; go_simp)⟩) ?_
      simp only [Act.put, List.setIfInBounds_toArray, List.set_cons_zero, List.set_cons_succ]
      refine Ht.takeN (i := 6) ⟨some 52, _, _, _, _, _⟩ (S s) rfl (Nat.le_refl 13) (by kernel_rfl) (by kernel_rfl) (by kernel_rfl) (by kernel_rfl) hS0 (Or.inl ⟨by rfl, by (intro X hX; go_simp)⟩) ?_
      simp only [Act.put, List.setIfInBounds_toArray, List.set_cons_zero, List.set_cons_succ]
      refine Ht.takeN (i := 7) ⟨some 53, _, _, _, _, _⟩ (.int .i64 (m : Nat)) rfl (Nat.le_refl 13) (by kernel_rfl) (by kernel_rfl) (by kernel_rfl) (by kernel_rfl) hS0 (Or.inl ⟨by rfl, by (intro X hX; go_simp)⟩) ?_
      simp only [Act.put, List.setIfInBounds_toArray, List.set_cons_zero, List.set_cons_succ]
      refine Ht.takeN (i := 8) ⟨some 54, _, _, _, _, _⟩ (.int .i64 ((m : Nat) + 1)) rfl (Nat.le_refl 13) (by kernel_rfl) (by kernel_rfl) (by kernel_rfl) (by kernel_rfl) hS0 (Or.inl ⟨by rfl, by (intro X hX; have := hm1; go_simp)⟩) ?_
      simp only [Act.put, List.setIfInBounds_toArray, List.set_cons_zero, List.set_cons_succ]
      refine Ht.takeN (i := 9) ⟨some 55, _, _, _, _, _⟩ (S (s.drop (m + 1))) rfl (Nat.le_refl 13) (by kernel_rfl) (by kernel_rfl) (by kernel_rfl) (by kernel_rfl) hS0 (Or.inl ⟨by rfl, by (intro X hX; have := And.intro hsb (And.intro hm2 hm3); go_simp)⟩) ?_
      simp only [Act.put, List.setIfInBounds_toArray, List.set_cons_zero, List.set_cons_succ]
      refine Ht.step (i := 4) ⟨some 50, _, _, _, _, _⟩ rfl (by kernel_rfl) (by rfl) (fun K hK => ?_)
      refine Ht.enter 60 #[.int .i64 (i : Nat), S (s.take m)] (by have hen := fun args w => enters_of (P := Tryz.prog) Tryz.func60 (by kernel_rfl) rfl args w; go_simp) (HX.out.1 _) ?_
      rintro e A1 ⟨rfl, hb1⟩
      have HA1 := Lib.hid hb1
      clear hb1
      refine ⟨_, rfl, hK _ _ (fun _ => trivial) (fun _ => ?_)⟩
      clear hK K
      simp only [Act.put, List.setIfInBounds_toArray, List.set_cons_zero, List.set_cons_succ]
      refine Ht.step (i := 10) ⟨some 56, _, _, _, _, _⟩ rfl (by kernel_rfl) (by rfl) (fun K hK => ?_)
      refine Ht.enter 60 #[.int .i64 (i : Nat), S (s.drop (m + 1))] (by have hen := fun args w => enters_of (P := Tryz.prog) Tryz.func60 (by kernel_rfl) rfl args w; go_simp) (HX.out.2 _) ?_
      rintro e A2 ⟨rfl, hb2⟩
      have HA2 := Lib.hid (HA1.out.trans (hb2.mono HA1.out.size))
      clear hb2
      refine ⟨_, rfl, hK _ _ (fun _ => trivial) (fun _ => ?_)⟩
      clear hK K
      simp only [Act.put, List.setIfInBounds_toArray, List.set_cons_zero, List.set_cons_succ]
      refine Ht.takeN (i := 11) ⟨some 11, _, _, _, _, _⟩ (.int .i64 (x : Nat)) rfl (Nat.le_refl 13) (by kernel_rfl) (by kernel_rfl) (by kernel_rfl) (by kernel_rfl) trivial (Or.inl ⟨by rfl, by (intro X hX; go_simp)⟩) ?_
      simp only [Act.put, List.setIfInBounds_toArray, List.set_cons_zero, List.set_cons_succ]
      refine Ht.takeN (i := 12) ⟨some 12, _, _, _, _, _⟩ (.int .i64 (y : Nat)) rfl (Nat.le_refl 13) (by kernel_rfl) (by kernel_rfl) (by kernel_rfl) (by kernel_rfl) trivial (Or.inl ⟨by rfl, by (intro X hX; go_simp)⟩) ?_
      simp only [Act.put, List.setIfInBounds_toArray, List.set_cons_zero, List.set_cons_succ]
      refine done (by kernel_rfl) ?_
      have HW := Lib.hid (H1.out.trans ((Below.trans (Below.drew (Below.refl w3.heap.size w3)) HA2.out).mono H1.out.size))
      have Q1 : ((lo : Nat) : Int) ≤ ((x : Nat) : Int) := by omega
      have Q2 : ((x : Nat) : Int) ≤ ((y : Nat) : Int) := by omega
      have Q3 : ((y : Nat) : Int) ≤ ((hi' : Nat) : Int) := by omega
      have Q4 : (1 : Int) ≤ ((1 : Nat) : Int) := by omega
      have Q5 : ((1 : Nat) : Int) ≤ 60 := by omega
      go_wp2_with fail
      simp only [show decide (x < lo) = false from decide_eq_false (by omega), show decide (hi' < y) = false from decide_eq_false (by omega), show decide (y < x) = false from decide_eq_false (by omega), show decide (1 < 1) = false from decide_eq_false (by omega), show decide (60 < 1) = false from decide_eq_false (by omega), show decide (((1 : Nat) : Int) < 1) = false from decide_eq_false (by omega), show decide ((60 : Int) < ((1 : Nat) : Int)) = false from decide_eq_false (by omega), Bool.or_false, Bool.false_or]
      go_loopw [16, 15] (fun z v wr => ∃ k : Nat, z = .int .i64 ((x + k * 1 : Nat) : Int) ∧ k ≤ 60 ∧ (∀ j, j < k → x + j * 1 ≤ y) ∧ wr.ownsRow w.heap.size 3 1 v k (ints (vals x 1 k)) ∧ Below w.heap.size w wr) (fun z _ _ => 300 - (RowKit.intOf z).toNat)
      case atStart => exact ⟨0, by simp, by omega, fun j hj => absurd hj (Nat.not_lt_zero j), World.ownsRow_nil _ _ _ _, HW.out⟩
      case round =>
        obtain ⟨k, rfl, hk, hj, hown, hbel⟩ := hrel
        have hkd : k ≤ k * 1 := Nat.le_mul_of_pos_right k (by omega)
        have hks : x + (k + 1) * 1 = x + k * 1 + 1 := by rw [Nat.add_mul]; omega
        have HJ := Lib.hid (And.intro hj (And.intro hbel hks))
        clear hj hbel hks
        generalize hK : x + k * 1 = K at HJ
        have hkK : k ≤ K := by omega
        have HK := Lib.hid hK
        clear hK hkd
        by_cases hle : K ≤ y
        · have hleI : ((K : Nat) : Int) ≤ ((y : Nat) : Int) := by omega
          go_wp2_with (at_builtin; refine wpList_append_own _ rfl _ _ 70 rfl w.heap.size 3 i0 (.int .i64 0) 1 8 Tryz.underlying70 hi0 hz0 hz1 hz2 rfl (by decide) _ _ _ rfl (hown.alloc _) ⟨wr.heap.size, 0, none⟩ 1 1 [.int .i64 (K : Nat)] rfl rfl ?c1 ?c2 ?c3 ?c4 ?c5 ?_)
          case c1 =>
            intro j u hj
            match j, hj with
            | 0, hj => simp at hj; subst hj; simp [Addr.add]
          case c2 => intro u hu; simp at hu; subst hu; rfl
          case c3 => have : maxLen = 9223372036854775807 := rfl; omega
          case c4 => omega
          case c5 => have := HJ.out.2.1.size; first | omega | (simp; omega)
          intro v' w9 hown' hgrow _
          have hb9 : Below w.heap.size w w9 := (HJ.out.2.1.alloc HJ.out.2.1.size _).grown hgrow (by have := HJ.out.2.1.size; simp; omega) (fun g hg => (hown.lt g hg).1)
          obtain ⟨ao, cp, rfl⟩ : ∃ ao cp, v' = .slice ao (k + 1) cp := by
            rcases hown'.2 with ⟨rfl, h9⟩ | ⟨g, cap, cur, rfl, _⟩
            · omega
            · exact ⟨_, _, rfl⟩
          have HR := Lib.hid (And.intro hown' hb9)
          clear hown' hgrow hb9 hown
          go_wp2_with fail
          go_roundw
          case rel =>
            refine ⟨k + 1, ?_, by omega, ?_, ?_, HR.out.2⟩
            · rw [HJ.out.2.2]; exact congrArg (Value.int .i64) (by omega)
            · intro j hj'
              by_cases hjk : j = k
              · subst hjk; rw [HK.out]; exact hle
              · exact HJ.out.1 j (by omega)
            · have e1 : ints (vals x 1 (k + 1)) = ints (vals x 1 k) ++ [.int .i64 (K : Nat)] := by rw [vals_next, HK.out]; simp [ints]
              rw [e1]; exact HR.out.1
          case measure => simp [RowKit.intOf]; omega
        · have hleI : ¬ ((K : Nat) : Int) ≤ ((y : Nat) : Int) := by omega
          obtain ⟨ao, cp, rfl⟩ : ∃ ao cp, u15 = .slice ao k cp := by
            rcases hown.2 with ⟨rfl, h9⟩ | ⟨g, cap, cur, rfl, _⟩
            · exact ⟨_, _, by rw [h9]⟩
            · exact ⟨_, _, rfl⟩
          go_wp2_with fail
          go_ret2
          exact ⟨⟨_, k, rfl, hown, hk, vals_mem (by omega) (by rw [HK.out]; omega) HJ.out.1⟩, HJ.out.2.1⟩
  · -- STEP
    obtain ⟨k1, k2, k3⟩ := fi_some f1
    rw [fiI_some f1]
    have hsl1 : (⟨s.toArray⟩ : ByteArray).extract (k + 1) s.length = ⟨(s.drop (k + 1)).toArray⟩ := by rw [sub_S, List.take_of_length_le (by rw [List.length_drop]; omega)]
    have hsl2 : (⟨s.toArray⟩ : ByteArray).extract 0 k = ⟨(s.take k).toArray⟩ := by rw [sub_S]; simp
    have hk0 : (0 : Int) ≤ ((k : Nat) : Int) := by omega
    have hk1 : ((k : Nat) : Int) ≤ ((s.length : Nat) : Int) := by omega
    have hk2 : ((k : Nat) : Int) + 1 ≤ ((s.length : Nat) : Int) := by omega
    have hk3 : (0 : Int) ≤ ((k : Nat) : Int) + 1 := by omega
    have hlA : (s.take k).length ≤ 1000 := by rw [List.length_take]; omega
    have HD := Lib.hid (HH.out.2.1 (s.drop (k + 1)) d (by rw [List.length_drop]; omega) f3)
    have F2 := Lib.hid f2
    generalize s.take k = A at hsl2 hlA F2
    generalize s.drop (k + 1) = B at hsl1 HD
    have hlAI : ((A.length : Nat) : Int) ≤ 1000 := by omega
    have hzAA := size_S A
    clear f1 f2 f3 k2 k3
    go_wp2_with fail
    refine (HD.out w2).mono ?_
    rintro e w3 ⟨rfl, hb3⟩
    have H3 := Lib.hid (H1.out.trans (hb3.mono H1.out.size))
    clear hb3
    have hd0 : (0 : Int) ≤ ((d : Nat) : Int) := by omega
    rcases F2.out with ⟨e1, e2, e3⟩ | ⟨e0, m, e1, e2, e3⟩
    · rw [← HH.out.2.2.1] at e2
      rw [← HH.out.2.2.2] at e3
      subst e1
      subst e2
      subst e3
      go_wp2_with fail
      refine (rat_any [42] (by decide) 45 w3).mono ?_
      rintro e w4 ⟨rfl, rfl⟩
      rw [fiI_none (show fi 45 [42] = none by decide)]
      have HW := Lib.hid H3.out
      have Q1 : ((x : Nat) : Int) ≤ ((x : Nat) : Int) := by omega
      have Q2 : ((x : Nat) : Int) ≤ ((y : Nat) : Int) := by omega
      have Q3 : ((y : Nat) : Int) ≤ ((y : Nat) : Int) := by omega
      have Q4 : (1 : Int) ≤ ((d : Nat) : Int) := by omega
      have Q5 : ((d : Nat) : Int) ≤ 60 := by omega
      go_wp2_with fail
      simp only [show decide (x < x) = false from decide_eq_false (by omega), show decide (y < y) = false from decide_eq_false (by omega), show decide (y < x) = false from decide_eq_false (by omega), show decide (d < 1) = false from decide_eq_false (by omega), show decide (60 < d) = false from decide_eq_false (by omega), show decide (((d : Nat) : Int) < 1) = false from decide_eq_false (by omega), show decide ((60 : Int) < ((d : Nat) : Int)) = false from decide_eq_false (by omega), Bool.or_false, Bool.false_or]
      go_loopw [16, 15] (fun z v wr => ∃ k : Nat, z = .int .i64 ((x + k * d : Nat) : Int) ∧ k ≤ 60 ∧ (∀ j, j < k → x + j * d ≤ y) ∧ wr.ownsRow w.heap.size 3 1 v k (ints (vals x d k)) ∧ Below w.heap.size w wr) (fun z _ _ => 300 - (RowKit.intOf z).toNat)
      case atStart => exact ⟨0, by simp, by omega, fun j hj => absurd hj (Nat.not_lt_zero j), World.ownsRow_nil _ _ _ _, HW.out⟩
      case round =>
        obtain ⟨k, rfl, hk, hj, hown, hbel⟩ := hrel
        have hkd : k ≤ k * d := Nat.le_mul_of_pos_right k (by omega)
        have hks : x + (k + 1) * d = x + k * d + d := by rw [Nat.add_mul]; omega
        have HJ := Lib.hid (And.intro hj (And.intro hbel hks))
        clear hj hbel hks
        generalize hK : x + k * d = K at HJ
        have hkK : k ≤ K := by omega
        have HK := Lib.hid hK
        clear hK hkd
        by_cases hle : K ≤ y
        · have hleI : ((K : Nat) : Int) ≤ ((y : Nat) : Int) := by omega
          go_wp2_with (at_builtin; refine wpList_append_own _ rfl _ _ 70 rfl w.heap.size 3 i0 (.int .i64 0) 1 8 Tryz.underlying70 hi0 hz0 hz1 hz2 rfl (by decide) _ _ _ rfl (hown.alloc _) ⟨wr.heap.size, 0, none⟩ 1 1 [.int .i64 (K : Nat)] rfl rfl ?c1 ?c2 ?c3 ?c4 ?c5 ?_)
          case c1 =>
            intro j u hj
            match j, hj with
            | 0, hj => simp at hj; subst hj; simp [Addr.add]
          case c2 => intro u hu; simp at hu; subst hu; rfl
          case c3 => have : maxLen = 9223372036854775807 := rfl; omega
          case c4 => omega
          case c5 => have := HJ.out.2.1.size; first | omega | (simp; omega)
          intro v' w9 hown' hgrow _
          have hb9 : Below w.heap.size w w9 := (HJ.out.2.1.alloc HJ.out.2.1.size _).grown hgrow (by have := HJ.out.2.1.size; simp; omega) (fun g hg => (hown.lt g hg).1)
          obtain ⟨ao, cp, rfl⟩ : ∃ ao cp, v' = .slice ao (k + 1) cp := by
            rcases hown'.2 with ⟨rfl, h9⟩ | ⟨g, cap, cur, rfl, _⟩
            · omega
            · exact ⟨_, _, rfl⟩
          have HR := Lib.hid (And.intro hown' hb9)
          clear hown' hgrow hb9 hown
          go_wp2_with fail
          go_roundw
          case rel =>
            refine ⟨k + 1, ?_, by omega, ?_, ?_, HR.out.2⟩
            · rw [HJ.out.2.2]; exact congrArg (Value.int .i64) (by omega)
            · intro j hj'
              by_cases hjk : j = k
              · subst hjk; rw [HK.out]; exact hle
              · exact HJ.out.1 j (by omega)
            · have e1 : ints (vals x d (k + 1)) = ints (vals x d k) ++ [.int .i64 (K : Nat)] := by rw [vals_next, HK.out]; simp [ints]
              rw [e1]; exact HR.out.1
          case measure => simp [RowKit.intOf]; omega
        · have hleI : ¬ ((K : Nat) : Int) ≤ ((y : Nat) : Int) := by omega
          obtain ⟨ao, cp, rfl⟩ : ∃ ao cp, u15 = .slice ao k cp := by
            rcases hown.2 with ⟨rfl, h9⟩ | ⟨g, cap, cur, rfl, _⟩
            · exact ⟨_, _, by rw [h9]⟩
            · exact ⟨_, _, rfl⟩
          go_wp2_with fail
          go_ret2
          exact ⟨⟨_, k, rfl, hown, hk, vals_mem (by omega) (by rw [HK.out]; omega) HJ.out.1⟩, HJ.out.2.1⟩
    · go_wp2_with fail
      refine (rat_any A hlA 45 w3).mono ?_
      rintro e w4 ⟨rfl, rfl⟩
      rw [fiI_some e1]
      obtain ⟨g1, g2, g3⟩ := fi_some e1
      have hstar : (A == [42]) = false := by simpa using e0
      have hzA := size_S A
      have hsa : (⟨A.toArray⟩ : ByteArray).extract 0 m = ⟨(A.take m).toArray⟩ := by rw [sub_S]; simp
      have hsb : (⟨A.toArray⟩ : ByteArray).extract (m + 1) A.length = ⟨(A.drop (m + 1)).toArray⟩ := by rw [sub_S, List.take_of_length_le (by rw [List.length_drop]; omega)]
      have hm0 : ((m : Nat) : Int) ≤ ((A.length : Nat) : Int) := by omega
      have hm00 : (0 : Int) ≤ ((m : Nat) : Int) := by omega
      have hm1 : IntKind.i64.wrap (((m : Nat) : Int) + 1) = ((m : Nat) : Int) + 1 := IntWalk.i64_in _ (by omega)
      have hm2 : ((m : Nat) : Int) + 1 ≤ ((A.length : Nat) : Int) := by omega
      have hm3 : (0 : Int) ≤ ((m : Nat) : Int) + 1 := by omega
      have HX := Lib.hid (show (∀ W : World, Calls Tryz.prog 60 #[.int .i64 (i : Nat), S (A.take m)] W fun e w' => e = .returned (.int .i64 (x : Nat)) ∧ Below W.heap.size W w') ∧ (∀ W : World, Calls Tryz.prog 60 #[.int .i64 (i : Nat), S (A.drop (m + 1))] W fun e w' => e = .returned (.int .i64 (y : Nat)) ∧ Below W.heap.size W w') from
        ⟨fun W => by have := HH.out.1 (A.take m) (by rw [List.length_take]; omega) W; rw [nI_of e2] at this; exact this, fun W => by have := HH.out.1 (A.drop (m + 1)) (by rw [List.length_drop]; omega) W; rw [nI_of e3] at this; exact this⟩)
      clear g2 g3 e1 e2 e3 e0
      go_wp2_with fail
      refine begin' 13 (fun _ => True) hmix trivial (fun hS0 => ?_)
      refine Ht.takeN (i := 0) ⟨some 46, _, _, _, _, _⟩ (.int .i64 (i : Nat)) rfl (Nat.le_refl 13) (by kernel_rfl) (by kernel_rfl) (by kernel_rfl) (by kernel_rfl) hS0 (Or.inl ⟨by rfl, by (intro X hX; go_simp)⟩) ?_
      simp only [Act.put, List.setIfInBounds_toArray, List.set_cons_zero, List.set_cons_succ]
      refine Ht.takeN (i := 1) ⟨some 47, _, _, _, _, _⟩ (S A) rfl (Nat.le_refl 13) (by kernel_rfl) (by kernel_rfl) (by kernel_rfl) (by kernel_rfl) hS0 (Or.inl ⟨by rfl, by (intro X hX; go_simp)⟩) ?_
      simp only [Act.put, List.setIfInBounds_toArray, List.set_cons_zero, List.set_cons_succ]
      refine Ht.takeN (i := 2) ⟨some 48, _, _, _, _, _⟩ (.int .i64 (m : Nat)) rfl (Nat.le_refl 13) (by kernel_rfl) (by kernel_rfl) (by kernel_rfl) (by kernel_rfl) hS0 (Or.inl ⟨by rfl, by (intro X hX; go_simp)⟩) ?_
      simp only [Act.put, List.setIfInBounds_toArray, List.set_cons_zero, List.set_cons_succ]
      refine Ht.takeN (i := 3) ⟨some 49, _, _, _, _, _⟩ (S (A.take m)) rfl (Nat.le_refl 13) (by kernel_rfl) (by kernel_rfl) (by kernel_rfl) (by kernel_rfl) hS0 (Or.inl ⟨by rfl, by (intro X hX; have := And.intro hsa hm0; go_simp)⟩) ?_
      simp only [Act.put, List.setIfInBounds_toArray, List.set_cons_zero, List.set_cons_succ]
      refine Ht.takeN (i := 5) ⟨some 51, _, _, _, _, _⟩ (.int .i64 (i : Nat)) rfl (Nat.le_refl 13) (by kernel_rfl) (by kernel_rfl) (by kernel_rfl) (by kernel_rfl) hS0 (Or.inl ⟨by rfl, by (intro X hX; go_simp)⟩) ?_
      simp only [Act.put, List.setIfInBounds_toArray, List.set_cons_zero, List.set_cons_succ]
      refine Ht.takeN (i := 6) ⟨some 52, _, _, _, _, _⟩ (S A) rfl (Nat.le_refl 13) (by kernel_rfl) (by kernel_rfl) (by kernel_rfl) (by kernel_rfl) hS0 (Or.inl ⟨by rfl, by (intro X hX; go_simp)⟩) ?_
      simp only [Act.put, List.setIfInBounds_toArray, List.set_cons_zero, List.set_cons_succ]
      refine Ht.takeN (i := 7) ⟨some 53, _, _, _, _, _⟩ (.int .i64 (m : Nat)) rfl (Nat.le_refl 13) (by kernel_rfl) (by kernel_rfl) (by kernel_rfl) (by kernel_rfl) hS0 (Or.inl ⟨by rfl, by (intro X hX; go_simp)⟩) ?_
      simp only [Act.put, List.setIfInBounds_toArray, List.set_cons_zero, List.set_cons_succ]
      refine Ht.takeN (i := 8) ⟨some 54, _, _, _, _, _⟩ (.int .i64 ((m : Nat) + 1)) rfl (Nat.le_refl 13) (by kernel_rfl) (by kernel_rfl) (by kernel_rfl) (by kernel_rfl) hS0 (Or.inl ⟨by rfl, by (intro X hX; have := hm1; go_simp)⟩) ?_
      simp only [Act.put, List.setIfInBounds_toArray, List.set_cons_zero, List.set_cons_succ]
      refine Ht.takeN (i := 9) ⟨some 55, _, _, _, _, _⟩ (S (A.drop (m + 1))) rfl (Nat.le_refl 13) (by kernel_rfl) (by kernel_rfl) (by kernel_rfl) (by kernel_rfl) hS0 (Or.inl ⟨by rfl, by (intro X hX; have := And.intro hsb (And.intro hm2 hm3); go_simp)⟩) ?_
      simp only [Act.put, List.setIfInBounds_toArray, List.set_cons_zero, List.set_cons_succ]
      refine Ht.step (i := 4) ⟨some 50, _, _, _, _, _⟩ rfl (by kernel_rfl) (by rfl) (fun K hK => ?_)
      refine Ht.enter 60 #[.int .i64 (i : Nat), S (A.take m)] (by have hen := fun args w => enters_of (P := Tryz.prog) Tryz.func60 (by kernel_rfl) rfl args w; go_simp) (HX.out.1 _) ?_
      rintro e A1 ⟨rfl, hb1⟩
      have HA1 := Lib.hid hb1
      clear hb1
      refine ⟨_, rfl, hK _ _ (fun _ => trivial) (fun _ => ?_)⟩
      clear hK K
      simp only [Act.put, List.setIfInBounds_toArray, List.set_cons_zero, List.set_cons_succ]
      refine Ht.step (i := 10) ⟨some 56, _, _, _, _, _⟩ rfl (by kernel_rfl) (by rfl) (fun K hK => ?_)
      refine Ht.enter 60 #[.int .i64 (i : Nat), S (A.drop (m + 1))] (by have hen := fun args w => enters_of (P := Tryz.prog) Tryz.func60 (by kernel_rfl) rfl args w; go_simp) (HX.out.2 _) ?_
      rintro e A2 ⟨rfl, hb2⟩
      have HA2 := Lib.hid (HA1.out.trans (hb2.mono HA1.out.size))
      clear hb2
      refine ⟨_, rfl, hK _ _ (fun _ => trivial) (fun _ => ?_)⟩
      clear hK K
      simp only [Act.put, List.setIfInBounds_toArray, List.set_cons_zero, List.set_cons_succ]
      refine Ht.takeN (i := 11) ⟨some 11, _, _, _, _, _⟩ (.int .i64 (x : Nat)) rfl (Nat.le_refl 13) (by kernel_rfl) (by kernel_rfl) (by kernel_rfl) (by kernel_rfl) trivial (Or.inl ⟨by rfl, by (intro X hX; go_simp)⟩) ?_
      simp only [Act.put, List.setIfInBounds_toArray, List.set_cons_zero, List.set_cons_succ]
      refine Ht.takeN (i := 12) ⟨some 12, _, _, _, _, _⟩ (.int .i64 (y : Nat)) rfl (Nat.le_refl 13) (by kernel_rfl) (by kernel_rfl) (by kernel_rfl) (by kernel_rfl) trivial (Or.inl ⟨by rfl, by (intro X hX; go_simp)⟩) ?_
      simp only [Act.put, List.setIfInBounds_toArray, List.set_cons_zero, List.set_cons_succ]
      refine done (by kernel_rfl) ?_
      have HW := Lib.hid (H3.out.trans ((Below.trans (Below.drew (Below.refl w4.heap.size w4)) HA2.out).mono H3.out.size))
      have Q1 : ((lo : Nat) : Int) ≤ ((x : Nat) : Int) := by omega
      have Q2 : ((x : Nat) : Int) ≤ ((y : Nat) : Int) := by omega
      have Q3 : ((y : Nat) : Int) ≤ ((hi' : Nat) : Int) := by omega
      have Q4 : (1 : Int) ≤ ((d : Nat) : Int) := by omega
      have Q5 : ((d : Nat) : Int) ≤ 60 := by omega
      go_wp2_with fail
      simp only [show decide (x < lo) = false from decide_eq_false (by omega), show decide (hi' < y) = false from decide_eq_false (by omega), show decide (y < x) = false from decide_eq_false (by omega), show decide (d < 1) = false from decide_eq_false (by omega), show decide (60 < d) = false from decide_eq_false (by omega), show decide (((d : Nat) : Int) < 1) = false from decide_eq_false (by omega), show decide ((60 : Int) < ((d : Nat) : Int)) = false from decide_eq_false (by omega), Bool.or_false, Bool.false_or]
      go_loopw [16, 15] (fun z v wr => ∃ k : Nat, z = .int .i64 ((x + k * d : Nat) : Int) ∧ k ≤ 60 ∧ (∀ j, j < k → x + j * d ≤ y) ∧ wr.ownsRow w.heap.size 3 1 v k (ints (vals x d k)) ∧ Below w.heap.size w wr) (fun z _ _ => 300 - (RowKit.intOf z).toNat)
      case atStart => exact ⟨0, by simp, by omega, fun j hj => absurd hj (Nat.not_lt_zero j), World.ownsRow_nil _ _ _ _, HW.out⟩
      case round =>
        obtain ⟨k, rfl, hk, hj, hown, hbel⟩ := hrel
        have hkd : k ≤ k * d := Nat.le_mul_of_pos_right k (by omega)
        have hks : x + (k + 1) * d = x + k * d + d := by rw [Nat.add_mul]; omega
        have HJ := Lib.hid (And.intro hj (And.intro hbel hks))
        clear hj hbel hks
        generalize hK : x + k * d = K at HJ
        have hkK : k ≤ K := by omega
        have HK := Lib.hid hK
        clear hK hkd
        by_cases hle : K ≤ y
        · have hleI : ((K : Nat) : Int) ≤ ((y : Nat) : Int) := by omega
          go_wp2_with (at_builtin; refine wpList_append_own _ rfl _ _ 70 rfl w.heap.size 3 i0 (.int .i64 0) 1 8 Tryz.underlying70 hi0 hz0 hz1 hz2 rfl (by decide) _ _ _ rfl (hown.alloc _) ⟨wr.heap.size, 0, none⟩ 1 1 [.int .i64 (K : Nat)] rfl rfl ?c1 ?c2 ?c3 ?c4 ?c5 ?_)
          case c1 =>
            intro j u hj
            match j, hj with
            | 0, hj => simp at hj; subst hj; simp [Addr.add]
          case c2 => intro u hu; simp at hu; subst hu; rfl
          case c3 => have : maxLen = 9223372036854775807 := rfl; omega
          case c4 => omega
          case c5 => have := HJ.out.2.1.size; first | omega | (simp; omega)
          intro v' w9 hown' hgrow _
          have hb9 : Below w.heap.size w w9 := (HJ.out.2.1.alloc HJ.out.2.1.size _).grown hgrow (by have := HJ.out.2.1.size; simp; omega) (fun g hg => (hown.lt g hg).1)
          obtain ⟨ao, cp, rfl⟩ : ∃ ao cp, v' = .slice ao (k + 1) cp := by
            rcases hown'.2 with ⟨rfl, h9⟩ | ⟨g, cap, cur, rfl, _⟩
            · omega
            · exact ⟨_, _, rfl⟩
          have HR := Lib.hid (And.intro hown' hb9)
          clear hown' hgrow hb9 hown
          go_wp2_with fail
          go_roundw
          case rel =>
            refine ⟨k + 1, ?_, by omega, ?_, ?_, HR.out.2⟩
            · rw [HJ.out.2.2]; exact congrArg (Value.int .i64) (by omega)
            · intro j hj'
              by_cases hjk : j = k
              · subst hjk; rw [HK.out]; exact hle
              · exact HJ.out.1 j (by omega)
            · have e1 : ints (vals x d (k + 1)) = ints (vals x d k) ++ [.int .i64 (K : Nat)] := by rw [vals_next, HK.out]; simp [ints]
              rw [e1]; exact HR.out.1
          case measure => simp [RowKit.intOf]; omega
        · have hleI : ¬ ((K : Nat) : Int) ≤ ((y : Nat) : Int) := by omega
          obtain ⟨ao, cp, rfl⟩ : ∃ ao cp, u15 = .slice ao k cp := by
            rcases hown.2 with ⟨rfl, h9⟩ | ⟨g, cap, cur, rfl, _⟩
            · exact ⟨_, _, by rw [h9]⟩
            · exact ⟨_, _, rfl⟩
          go_wp2_with fail
          go_ret2
          exact ⟨⟨_, k, rfl, hown, hk, vals_mem (by omega) (by rw [HK.out]; omega) HJ.out.1⟩, HJ.out.2.1⟩
end Go.Proofs.YtkkanggkbbmfnaaGreatDoor.Cn

/- the document's answer for an expression: a part that is wrong -/
namespace Go.Proofs.YtkkanggkbbmfnaaGreatDoor.Cn
open Go.RowKit Go.Lib Go.Proofs.YtkkanggkbbmfnaaGreatDoor.Ht
set_option linter.unusedVariables false
set_option linter.unusedSimpArgs false

/-- the tests that fail, of ends X and Y and step D -/
def Ways (lo hi X Y D : Int) (E : Nat) : Prop :=
  (E = 2 ∧ (X < 0 ∨ (0 ≤ X ∧ Y < 0))) ∨
  (E = 3 ∧ 0 ≤ X ∧ 0 ≤ Y ∧ (X < lo ∨ (lo ≤ X ∧ hi < Y) ∨ (lo ≤ X ∧ Y ≤ hi ∧ Y < X) ∨ (lo ≤ X ∧ Y ≤ hi ∧ X ≤ Y ∧ D < 1) ∨ (lo ≤ X ∧ Y ≤ hi ∧ X ≤ Y ∧ 1 ≤ D ∧ 60 < D)))
theorem ways_of {f : Fd} {X Y D : Int} {E : Nat} (h : errI f X Y D true = E) (h0 : E ≠ 0) : Ways ((f.lo : Nat) : Int) ((f.hi : Nat) : Int) X Y D E := by
  rcases errI_ways h h0 with ⟨h1, h2 | h2 | h2⟩ | ⟨h1, _, h3⟩
  · cases h2
  · exact .inl ⟨h1, .inl h2.2⟩
  · exact .inl ⟨h1, .inr h2.2⟩
  · exact .inr ⟨h1, h3⟩
set_option maxRecDepth 20000 in
set_option maxHeartbeats 16000000 in
theorem rpart_bad (i : Nat) (hi : i < 5) (s : L) (hs : s.length ≤ 1000) (h : errP (fds i) s ≠ 0) (w : World) :
    Calls Tryz.prog 38 #[.int .i64 (i : Nat), S s] w fun e w' => e = .returned (.tuple #[.slice none 0 0, .int .i64 (errP (fds i) s : Nat)]) ∧ Below w.heap.size w w' := by
  obtain ⟨E, hE⟩ : ∃ E, errP (fds i) s = E := ⟨_, rfl⟩
  rw [hE] at h ⊢
  have hz := size_S s
  have hmix : Tryz.prog.follows .mixedOrders = true := by kernel_rfl
  have HB := Lib.hid (bounds_any i hi w)
  have hnum := fun (t : L) (ht : t.length ≤ 1000) (W : World) => rnumber_any i hi t ht W
  have hnum0 := fun (t : L) (ht : t.length ≤ 1000) (W : World) => rnumber_any 0 (by decide) t ht W
  have HH := Lib.hid (And.intro hnum hnum0)
  have HE := Lib.hid (And.intro hE h)
  clear hnum hnum0 hi hE h
  have hsI : ((s.length : Nat) : Int) ≤ 1000 := by omega
  go_enter Tryz.func38, Tryz.ntmps38
  go_wp2_with fail
  refine HB.out.mono ?_
  rintro e w1 ⟨rfl, hb1⟩
  have H1 := Lib.hid hb1
  clear hb1
  go_wp2_with fail
  refine (rat_any s hs 47 w1).mono ?_
  rintro e w2 ⟨rfl, rfl⟩
  obtain ⟨q, hq⟩ : ∃ q, fi 47 s = q := ⟨_, rfl⟩
  cases q with
  | none =>
    have hw := err_plain (i := i) hq
    rw [HE.out.1] at hw
    replace hw := ways_of hw.symm HE.out.2
    unfold eI at hw
    rw [fiI_none hq]
    by_cases e0 : s = [42]
    · subst e0
      rw [if_pos rfl] at hw
      dsimp only at hw
      have hll := (fds_ok i)
      unfold Ways at hw
      have hlh : (fds i).lo ≤ (fds i).hi := by
        match i with
        | 0 => decide
        | 1 => decide
        | 2 => decide
        | 3 => decide
        | n + 4 => exact Nat.zero_le _
      omega
    · rw [if_neg e0] at hw
      obtain ⟨q, hq2⟩ : ∃ q, fi 45 s = q := ⟨_, rfl⟩
      rw [hq2] at hw
      cases q with
      | none =>
        dsimp only at hw
        obtain ⟨X, hX⟩ : ∃ X, nI (fds i) s = X := ⟨_, rfl⟩
        rw [hX] at hw
        have hn := HH.out.1 s hs w2
        rw [hX] at hn
        have HN := Lib.hid hn
        have hstar : (s == [42]) = false := by simpa using e0
        have HE2 := Lib.hid hw
        clear hn hX hw hq e0 HE
        go_wp2_with fail
        refine (rat_any s hs 45 w2).mono ?_
        rintro e w3 ⟨rfl, rfl⟩
        rw [fiI_none hq2]
        clear hq2
        go_wp2_with fail
        refine HN.out.mono ?_
        rintro e w4 ⟨rfl, hb⟩
        have HW := Lib.hid (H1.out.trans (hb.mono H1.out.size))
        have hways := HE2.out
        clear hb
        unfold Ways at hways
        rcases hways with ⟨rfl, h1 | ⟨h1, h2⟩⟩ | ⟨rfl, h1, h2, h3 | ⟨h3, h4⟩ | ⟨h3, h4, h5⟩ | ⟨h3, h4, h5, h6⟩ | ⟨h3, h4, h5, h6, h7⟩⟩
        all_goals
          go_wp2_with fail
          all_goals first | (go_ret2; exact ⟨rfl, HW.out⟩) | (exfalso; omega)
      | some m =>
        dsimp only at hw
        obtain ⟨X, e2⟩ : ∃ X, nI (fds i) (s.take m) = X := ⟨_, rfl⟩
        obtain ⟨Y, e3⟩ : ∃ X, nI (fds i) (s.drop (m + 1)) = X := ⟨_, rfl⟩
        rw [e2, e3] at hw
        have e1 := hq2
        have HE2 := Lib.hid hw
        clear hw hq HE
        go_wp2_with fail
        refine (rat_any s hs 45 w2).mono ?_
        rintro e w3 ⟨rfl, rfl⟩
        rw [fiI_some hq2]
        clear hq2
        obtain ⟨g1, g2, g3⟩ := fi_some e1
        have hstar : (s == [42]) = false := by simpa using e0
        have hzA := size_S s
        have hsa : (⟨s.toArray⟩ : ByteArray).extract 0 m = ⟨(s.take m).toArray⟩ := by rw [sub_S]; simp
        have hsb : (⟨s.toArray⟩ : ByteArray).extract (m + 1) s.length = ⟨(s.drop (m + 1)).toArray⟩ := by rw [sub_S, List.take_of_length_le (by rw [List.length_drop]; omega)]
        have hm0 : ((m : Nat) : Int) ≤ ((s.length : Nat) : Int) := by omega
        have hm00 : (0 : Int) ≤ ((m : Nat) : Int) := by omega
        have hm1 : IntKind.i64.wrap (((m : Nat) : Int) + 1) = ((m : Nat) : Int) + 1 := IntWalk.i64_in _ (by omega)
        have hm2 : ((m : Nat) : Int) + 1 ≤ ((s.length : Nat) : Int) := by omega
        have hm3 : (0 : Int) ≤ ((m : Nat) : Int) + 1 := by omega
        have HX := Lib.hid (show (∀ W : World, Calls Tryz.prog 60 #[.int .i64 (i : Nat), S (s.take m)] W fun e w' => e = .returned (.int .i64 X) ∧ Below W.heap.size W w') ∧ (∀ W : World, Calls Tryz.prog 60 #[.int .i64 (i : Nat), S (s.drop (m + 1))] W fun e w' => e = .returned (.int .i64 Y) ∧ Below W.heap.size W w') from
          ⟨fun W => by have := HH.out.1 (s.take m) (by rw [List.length_take]; omega) W; rw [e2] at this; exact this, fun W => by have := HH.out.1 (s.drop (m + 1)) (by rw [List.length_drop]; omega) W; rw [e3] at this; exact this⟩)
        clear g2 g3 e1 e2 e3 e0
        go_wp2_with fail
        refine begin' 13 (fun _ => True) hmix trivial (fun hS0 => ?_)
        refine Ht.takeN (i := 0) ⟨some 46, _, _, _, _, _⟩ (.int .i64 (i : Nat)) rfl (Nat.le_refl 13) (by kernel_rfl) (by kernel_rfl) (by kernel_rfl) (by kernel_rfl) hS0 (Or.inl ⟨by rfl, by (intro X hX; go_simp)⟩) ?_
        simp only [Act.put, List.setIfInBounds_toArray, List.set_cons_zero, List.set_cons_succ]
        refine Ht.takeN (i := 1) ⟨some 47, _, _, _, _, _⟩ (S s) rfl (Nat.le_refl 13) (by kernel_rfl) (by kernel_rfl) (by kernel_rfl) (by kernel_rfl) hS0 (Or.inl ⟨by rfl, by (intro X hX; go_simp)⟩) ?_
        simp only [Act.put, List.setIfInBounds_toArray, List.set_cons_zero, List.set_cons_succ]
        refine Ht.takeN (i := 2) ⟨some 48, _, _, _, _, _⟩ (.int .i64 (m : Nat)) rfl (Nat.le_refl 13) (by kernel_rfl) (by kernel_rfl) (by kernel_rfl) (by kernel_rfl) hS0 (Or.inl ⟨by rfl, by (intro X hX; go_simp)⟩) ?_
        simp only [Act.put, List.setIfInBounds_toArray, List.set_cons_zero, List.set_cons_succ]
        refine Ht.takeN (i := 3) ⟨some 49, _, _, _, _, _⟩ (S (s.take m)) rfl (Nat.le_refl 13) (by kernel_rfl) (by kernel_rfl) (by kernel_rfl) (by kernel_rfl) hS0 (Or.inl ⟨by rfl, by (intro X hX; have := And.intro hsa hm0; go_simp)⟩) ?_
        simp only [Act.put, List.setIfInBounds_toArray, List.set_cons_zero, List.set_cons_succ]
        refine Ht.takeN (i := 5) ⟨some 51, _, _, _, _, _⟩ (.int .i64 (i : Nat)) rfl (Nat.le_refl 13) (by kernel_rfl) (by kernel_rfl) (by kernel_rfl) (by kernel_rfl) hS0 (Or.inl ⟨by rfl, by (intro X hX; go_simp)⟩) ?_
        simp only [Act.put, List.setIfInBounds_toArray, List.set_cons_zero, List.set_cons_succ]
        refine Ht.takeN (i := 6) ⟨some 52, _, _, _, _, _⟩ (S s) rfl (Nat.le_refl 13) (by kernel_rfl) (by kernel_rfl) (by kernel_rfl) (by kernel_rfl) hS0 (Or.inl ⟨by rfl, by (intro X hX; go_simp)⟩) ?_
        simp only [Act.put, List.setIfInBounds_toArray, List.set_cons_zero, List.set_cons_succ]
        refine Ht.takeN (i := 7) ⟨some 53, _, _, _, _, _⟩ (.int .i64 (m : Nat)) rfl (Nat.le_refl 13) (by kernel_rfl) (by kernel_rfl) (by kernel_rfl) (by kernel_rfl) hS0 (Or.inl ⟨by rfl, by (intro X hX; go_simp)⟩) ?_
        simp only [Act.put, List.setIfInBounds_toArray, List.set_cons_zero, List.set_cons_succ]
        refine Ht.takeN (i := 8) ⟨some 54, _, _, _, _, _⟩ (.int .i64 ((m : Nat) + 1)) rfl (Nat.le_refl 13) (by kernel_rfl) (by kernel_rfl) (by kernel_rfl) (by kernel_rfl) hS0 (Or.inl ⟨by rfl, by (intro X hX; have := hm1; go_simp)⟩) ?_
        simp only [Act.put, List.setIfInBounds_toArray, List.set_cons_zero, List.set_cons_succ]
        refine Ht.takeN (i := 9) ⟨some 55, _, _, _, _, _⟩ (S (s.drop (m + 1))) rfl (Nat.le_refl 13) (by kernel_rfl) (by kernel_rfl) (by kernel_rfl) (by kernel_rfl) hS0 (Or.inl ⟨by rfl, by (intro X hX; have := And.intro hsb (And.intro hm2 hm3); go_simp)⟩) ?_
        simp only [Act.put, List.setIfInBounds_toArray, List.set_cons_zero, List.set_cons_succ]
        refine Ht.step (i := 4) ⟨some 50, _, _, _, _, _⟩ rfl (by kernel_rfl) (by rfl) (fun K hK => ?_)
        refine Ht.enter 60 #[.int .i64 (i : Nat), S (s.take m)] (by have hen := fun args w => enters_of (P := Tryz.prog) Tryz.func60 (by kernel_rfl) rfl args w; go_simp) (HX.out.1 _) ?_
        rintro e A1 ⟨rfl, hb1⟩
        have HA1 := Lib.hid hb1
        clear hb1
        refine ⟨_, rfl, hK _ _ (fun _ => trivial) (fun _ => ?_)⟩
        clear hK K
        simp only [Act.put, List.setIfInBounds_toArray, List.set_cons_zero, List.set_cons_succ]
        refine Ht.step (i := 10) ⟨some 56, _, _, _, _, _⟩ rfl (by kernel_rfl) (by rfl) (fun K hK => ?_)
        refine Ht.enter 60 #[.int .i64 (i : Nat), S (s.drop (m + 1))] (by have hen := fun args w => enters_of (P := Tryz.prog) Tryz.func60 (by kernel_rfl) rfl args w; go_simp) (HX.out.2 _) ?_
        rintro e A2 ⟨rfl, hb2⟩
        have HA2 := Lib.hid (HA1.out.trans (hb2.mono HA1.out.size))
        clear hb2
        refine ⟨_, rfl, hK _ _ (fun _ => trivial) (fun _ => ?_)⟩
        clear hK K
        simp only [Act.put, List.setIfInBounds_toArray, List.set_cons_zero, List.set_cons_succ]
        refine Ht.takeN (i := 11) ⟨some 11, _, _, _, _, _⟩ (.int .i64 X) rfl (Nat.le_refl 13) (by kernel_rfl) (by kernel_rfl) (by kernel_rfl) (by kernel_rfl) trivial (Or.inl ⟨by rfl, by (intro X hX; go_simp)⟩) ?_
        simp only [Act.put, List.setIfInBounds_toArray, List.set_cons_zero, List.set_cons_succ]
        refine Ht.takeN (i := 12) ⟨some 12, _, _, _, _, _⟩ (.int .i64 Y) rfl (Nat.le_refl 13) (by kernel_rfl) (by kernel_rfl) (by kernel_rfl) (by kernel_rfl) trivial (Or.inl ⟨by rfl, by (intro X hX; go_simp)⟩) ?_
        simp only [Act.put, List.setIfInBounds_toArray, List.set_cons_zero, List.set_cons_succ]
        refine done (by kernel_rfl) ?_
        have HW := Lib.hid (H1.out.trans ((Below.trans (Below.drew (Below.refl w3.heap.size w3)) HA2.out).mono H1.out.size))
        have hways := HE2.out
        unfold Ways at hways
        rcases hways with ⟨rfl, h1 | ⟨h1, h2⟩⟩ | ⟨rfl, h1, h2, h3 | ⟨h3, h4⟩ | ⟨h3, h4, h5⟩ | ⟨h3, h4, h5, h6⟩ | ⟨h3, h4, h5, h6, h7⟩⟩
        all_goals
          go_wp2_with fail
          all_goals first | (go_ret2; exact ⟨rfl, HW.out⟩) | (exfalso; omega)
  | some k =>
    have hw := err_step (i := i) hq
    rw [HE.out.1] at hw
    replace hw := errI_ways hw.symm HE.out.2
    obtain ⟨k1, k2, k3⟩ := fi_some hq
    rw [fiI_some hq]
    have hsl1 : (⟨s.toArray⟩ : ByteArray).extract (k + 1) s.length = ⟨(s.drop (k + 1)).toArray⟩ := by rw [sub_S, List.take_of_length_le (by rw [List.length_drop]; omega)]
    have hsl2 : (⟨s.toArray⟩ : ByteArray).extract 0 k = ⟨(s.take k).toArray⟩ := by rw [sub_S]; simp
    have hk0 : (0 : Int) ≤ ((k : Nat) : Int) := by omega
    have hk1 : ((k : Nat) : Int) ≤ ((s.length : Nat) : Int) := by omega
    have hk2 : ((k : Nat) : Int) + 1 ≤ ((s.length : Nat) : Int) := by omega
    have hk3 : (0 : Int) ≤ ((k : Nat) : Int) + 1 := by omega
    have hlA : (s.take k).length ≤ 1000 := by rw [List.length_take]; omega
    obtain ⟨D, hD⟩ : ∃ D, nI (fds 0) (s.drop (k + 1)) = D := ⟨_, rfl⟩
    have hd := fun W => HH.out.2 (s.drop (k + 1)) (by rw [List.length_drop]; omega) W
    rw [hD] at hd hw
    have HD := Lib.hid hd
    have HE2 := Lib.hid hw
    generalize s.take k = A at hsl2 hlA HE2
    generalize s.drop (k + 1) = B at hsl1 HD hD hd
    have hlAI : ((A.length : Nat) : Int) ≤ 1000 := by omega
    have hzAA := size_S A
    clear hq hd hw hD k2 k3 HE
    go_wp2_with fail
    refine (HD.out w2).mono ?_
    rintro e w3 ⟨rfl, hb3⟩
    have H3 := Lib.hid (H1.out.trans (hb3.mono H1.out.size))
    clear hb3
    have hw := HE2.out
    clear HE2
    unfold eI at hw
    by_cases e0 : A = [42]
    · subst e0
      rw [if_pos rfl] at hw
      dsimp only at hw
      rw [Bool.and_true] at hw
      obtain ⟨lo, hlo⟩ : ∃ x, x = (fds i).lo := ⟨_, rfl⟩
      obtain ⟨hi', hhi⟩ : ∃ x, x = (fds i).hi := ⟨_, rfl⟩
      rw [← hlo, ← hhi] at hw
      have hll : lo ≤ hi' := by
        rw [hlo, hhi]
        match i with
        | 0 => decide
        | 1 => decide
        | 2 => decide
        | 3 => decide
        | n + 4 => exact Nat.zero_le _
      have hways : (E = 2 ∧ D < 0) ∨ (E = 3 ∧ 0 ≤ D ∧ D < 1) ∨ (E = 3 ∧ 0 ≤ D ∧ 60 < D) := by
        rcases hw with ⟨h1, h2 | h2 | h2⟩ | ⟨h1, h2, h3⟩
        · exact .inl ⟨h1, by have := of_decide_eq_false h2; omega⟩
        · omega
        · omega
        · have := of_decide_eq_true h2
          omega
      have HE2 := Lib.hid hways
      rw [← hlo, ← hhi]
      clear hw hways hlo hhi
      go_wp2_with fail
      refine (rat_any [42] (by decide) 45 w3).mono ?_
      rintro e w4 ⟨rfl, rfl⟩
      rw [fiI_none (show fi 45 [42] = none by decide)]
      have HW := Lib.hid H3.out
      have Q1 : ((lo : Nat) : Int) ≤ ((hi' : Nat) : Int) := by omega
      have Q2 : ¬ ((lo : Nat) : Int) < 0 := by omega
      have Q3 : ¬ ((hi' : Nat) : Int) < 0 := by omega
      have hways := HE2.out
      rcases hways with ⟨rfl, h1⟩ | ⟨rfl, h1, h2⟩ | ⟨rfl, h1, h2⟩
      all_goals
        go_wp2_with fail
        all_goals first | (go_ret2; exact ⟨rfl, HW.out⟩) | (exfalso; omega)
    · rw [if_neg e0] at hw
      obtain ⟨q, hq2⟩ : ∃ q, fi 45 A = q := ⟨_, rfl⟩
      rw [hq2] at hw
      cases q with
      | none =>
        dsimp only at hw
        obtain rfl : E = 2 := by
          rcases hw with ⟨h1, _⟩ | ⟨_, h1, _⟩
          · exact h1
          · rw [Bool.and_false] at h1; cases h1
        obtain ⟨X, hX⟩ : ∃ X, nI (fds i) A = X := ⟨_, rfl⟩
        have hn := HH.out.1 A hlA w3
        rw [hX] at hn
        have HN := Lib.hid hn
        have hstar : (A == [42]) = false := by simpa using e0
        clear hn hX hw e0
        by_cases hd0 : 0 ≤ D
        all_goals
          go_wp2_with fail
          refine (rat_any A hlA 45 w3).mono ?_
          rintro e w4 ⟨rfl, rfl⟩
          rw [fiI_none hq2]
          go_wp2_with fail
          refine HN.out.mono ?_
          rintro e w5 ⟨rfl, hb⟩
          have HW := Lib.hid (H3.out.trans (hb.mono H3.out.size))
          clear hb
          go_wp2_with fail
          all_goals first | (go_ret2; exact ⟨rfl, HW.out⟩) | (exfalso; omega)
      | some m =>
        dsimp only at hw
        obtain ⟨X, e2⟩ : ∃ X, nI (fds i) (A.take m) = X := ⟨_, rfl⟩
        obtain ⟨Y, e3⟩ : ∃ X, nI (fds i) (A.drop (m + 1)) = X := ⟨_, rfl⟩
        rw [e2, e3, Bool.and_true] at hw
        have hways : (E = 2 ∧ D < 0) ∨ (0 ≤ D ∧ Ways (((fds i).lo : Nat) : Int) (((fds i).hi : Nat) : Int) X Y D E) := by
          by_cases hd0 : 0 ≤ D
          · rw [decide_eq_true hd0] at hw
            refine .inr ⟨hd0, ?_⟩
            rcases hw with ⟨h1, h2 | h2 | h2⟩ | ⟨h1, _, h3⟩
            · cases h2
            · exact .inl ⟨h1, .inl h2.2⟩
            · exact .inl ⟨h1, .inr h2.2⟩
            · exact .inr ⟨h1, h3⟩
          · rw [decide_eq_false hd0] at hw
            rcases hw with ⟨h1, _⟩ | ⟨_, h1, _⟩
            · exact .inl ⟨h1, by omega⟩
            · cases h1
        have e1 := hq2
        have HE2 := Lib.hid hways
        clear hw hways
        go_wp2_with fail
        refine (rat_any A hlA 45 w3).mono ?_
        rintro e w4 ⟨rfl, rfl⟩
        rw [fiI_some hq2]
        clear hq2
        obtain ⟨g1, g2, g3⟩ := fi_some e1
        have hstar : (A == [42]) = false := by simpa using e0
        have hzA := size_S A
        have hsa : (⟨A.toArray⟩ : ByteArray).extract 0 m = ⟨(A.take m).toArray⟩ := by rw [sub_S]; simp
        have hsb : (⟨A.toArray⟩ : ByteArray).extract (m + 1) A.length = ⟨(A.drop (m + 1)).toArray⟩ := by rw [sub_S, List.take_of_length_le (by rw [List.length_drop]; omega)]
        have hm0 : ((m : Nat) : Int) ≤ ((A.length : Nat) : Int) := by omega
        have hm00 : (0 : Int) ≤ ((m : Nat) : Int) := by omega
        have hm1 : IntKind.i64.wrap (((m : Nat) : Int) + 1) = ((m : Nat) : Int) + 1 := IntWalk.i64_in _ (by omega)
        have hm2 : ((m : Nat) : Int) + 1 ≤ ((A.length : Nat) : Int) := by omega
        have hm3 : (0 : Int) ≤ ((m : Nat) : Int) + 1 := by omega
        have HX := Lib.hid (show (∀ W : World, Calls Tryz.prog 60 #[.int .i64 (i : Nat), S (A.take m)] W fun e w' => e = .returned (.int .i64 X) ∧ Below W.heap.size W w') ∧ (∀ W : World, Calls Tryz.prog 60 #[.int .i64 (i : Nat), S (A.drop (m + 1))] W fun e w' => e = .returned (.int .i64 Y) ∧ Below W.heap.size W w') from
          ⟨fun W => by have := HH.out.1 (A.take m) (by rw [List.length_take]; omega) W; rw [e2] at this; exact this, fun W => by have := HH.out.1 (A.drop (m + 1)) (by rw [List.length_drop]; omega) W; rw [e3] at this; exact this⟩)
        clear g2 g3 e1 e2 e3 e0
        go_wp2_with fail
        refine begin' 13 (fun _ => True) hmix trivial (fun hS0 => ?_)
        refine Ht.takeN (i := 0) ⟨some 46, _, _, _, _, _⟩ (.int .i64 (i : Nat)) rfl (Nat.le_refl 13) (by kernel_rfl) (by kernel_rfl) (by kernel_rfl) (by kernel_rfl) hS0 (Or.inl ⟨by rfl, by (intro X hX; go_simp)⟩) ?_
        simp only [Act.put, List.setIfInBounds_toArray, List.set_cons_zero, List.set_cons_succ]
        refine Ht.takeN (i := 1) ⟨some 47, _, _, _, _, _⟩ (S A) rfl (Nat.le_refl 13) (by kernel_rfl) (by kernel_rfl) (by kernel_rfl) (by kernel_rfl) hS0 (Or.inl ⟨by rfl, by (intro X hX; go_simp)⟩) ?_
        simp only [Act.put, List.setIfInBounds_toArray, List.set_cons_zero, List.set_cons_succ]
        refine Ht.takeN (i := 2) ⟨some 48, _, _, _, _, _⟩ (.int .i64 (m : Nat)) rfl (Nat.le_refl 13) (by kernel_rfl) (by kernel_rfl) (by kernel_rfl) (by kernel_rfl) hS0 (Or.inl ⟨by rfl, by (intro X hX; go_simp)⟩) ?_
        simp only [Act.put, List.setIfInBounds_toArray, List.set_cons_zero, List.set_cons_succ]
        refine Ht.takeN (i := 3) ⟨some 49, _, _, _, _, _⟩ (S (A.take m)) rfl (Nat.le_refl 13) (by kernel_rfl) (by kernel_rfl) (by kernel_rfl) (by kernel_rfl) hS0 (Or.inl ⟨by rfl, by (intro X hX; have := And.intro hsa hm0; go_simp)⟩) ?_
        simp only [Act.put, List.setIfInBounds_toArray, List.set_cons_zero, List.set_cons_succ]
        refine Ht.takeN (i := 5) ⟨some 51, _, _, _, _, _⟩ (.int .i64 (i : Nat)) rfl (Nat.le_refl 13) (by kernel_rfl) (by kernel_rfl) (by kernel_rfl) (by kernel_rfl) hS0 (Or.inl ⟨by rfl, by (intro X hX; go_simp)⟩) ?_
        simp only [Act.put, List.setIfInBounds_toArray, List.set_cons_zero, List.set_cons_succ]
        refine Ht.takeN (i := 6) ⟨some 52, _, _, _, _, _⟩ (S A) rfl (Nat.le_refl 13) (by kernel_rfl) (by kernel_rfl) (by kernel_rfl) (by kernel_rfl) hS0 (Or.inl ⟨by rfl, by (intro X hX; go_simp)⟩) ?_
        simp only [Act.put, List.setIfInBounds_toArray, List.set_cons_zero, List.set_cons_succ]
        refine Ht.takeN (i := 7) ⟨some 53, _, _, _, _, _⟩ (.int .i64 (m : Nat)) rfl (Nat.le_refl 13) (by kernel_rfl) (by kernel_rfl) (by kernel_rfl) (by kernel_rfl) hS0 (Or.inl ⟨by rfl, by (intro X hX; go_simp)⟩) ?_
        simp only [Act.put, List.setIfInBounds_toArray, List.set_cons_zero, List.set_cons_succ]
        refine Ht.takeN (i := 8) ⟨some 54, _, _, _, _, _⟩ (.int .i64 ((m : Nat) + 1)) rfl (Nat.le_refl 13) (by kernel_rfl) (by kernel_rfl) (by kernel_rfl) (by kernel_rfl) hS0 (Or.inl ⟨by rfl, by (intro X hX; have := hm1; go_simp)⟩) ?_
        simp only [Act.put, List.setIfInBounds_toArray, List.set_cons_zero, List.set_cons_succ]
        refine Ht.takeN (i := 9) ⟨some 55, _, _, _, _, _⟩ (S (A.drop (m + 1))) rfl (Nat.le_refl 13) (by kernel_rfl) (by kernel_rfl) (by kernel_rfl) (by kernel_rfl) hS0 (Or.inl ⟨by rfl, by (intro X hX; have := And.intro hsb (And.intro hm2 hm3); go_simp)⟩) ?_
        simp only [Act.put, List.setIfInBounds_toArray, List.set_cons_zero, List.set_cons_succ]
        refine Ht.step (i := 4) ⟨some 50, _, _, _, _, _⟩ rfl (by kernel_rfl) (by rfl) (fun K hK => ?_)
        refine Ht.enter 60 #[.int .i64 (i : Nat), S (A.take m)] (by have hen := fun args w => enters_of (P := Tryz.prog) Tryz.func60 (by kernel_rfl) rfl args w; go_simp) (HX.out.1 _) ?_
        rintro e A1 ⟨rfl, hb1⟩
        have HA1 := Lib.hid hb1
        clear hb1
        refine ⟨_, rfl, hK _ _ (fun _ => trivial) (fun _ => ?_)⟩
        clear hK K
        simp only [Act.put, List.setIfInBounds_toArray, List.set_cons_zero, List.set_cons_succ]
        refine Ht.step (i := 10) ⟨some 56, _, _, _, _, _⟩ rfl (by kernel_rfl) (by rfl) (fun K hK => ?_)
        refine Ht.enter 60 #[.int .i64 (i : Nat), S (A.drop (m + 1))] (by have hen := fun args w => enters_of (P := Tryz.prog) Tryz.func60 (by kernel_rfl) rfl args w; go_simp) (HX.out.2 _) ?_
        rintro e A2 ⟨rfl, hb2⟩
        have HA2 := Lib.hid (HA1.out.trans (hb2.mono HA1.out.size))
        clear hb2
        refine ⟨_, rfl, hK _ _ (fun _ => trivial) (fun _ => ?_)⟩
        clear hK K
        simp only [Act.put, List.setIfInBounds_toArray, List.set_cons_zero, List.set_cons_succ]
        refine Ht.takeN (i := 11) ⟨some 11, _, _, _, _, _⟩ (.int .i64 X) rfl (Nat.le_refl 13) (by kernel_rfl) (by kernel_rfl) (by kernel_rfl) (by kernel_rfl) trivial (Or.inl ⟨by rfl, by (intro X hX; go_simp)⟩) ?_
        simp only [Act.put, List.setIfInBounds_toArray, List.set_cons_zero, List.set_cons_succ]
        refine Ht.takeN (i := 12) ⟨some 12, _, _, _, _, _⟩ (.int .i64 Y) rfl (Nat.le_refl 13) (by kernel_rfl) (by kernel_rfl) (by kernel_rfl) (by kernel_rfl) trivial (Or.inl ⟨by rfl, by (intro X hX; go_simp)⟩) ?_
        simp only [Act.put, List.setIfInBounds_toArray, List.set_cons_zero, List.set_cons_succ]
        refine done (by kernel_rfl) ?_
        have HW := Lib.hid (H3.out.trans ((Below.trans (Below.drew (Below.refl w4.heap.size w4)) HA2.out).mono H3.out.size))
        have hways := HE2.out
        unfold Ways at hways
        rcases hways with ⟨rfl, h0⟩ | ⟨h0, ⟨rfl, h1 | ⟨h1, h2⟩⟩ | ⟨rfl, h1, h2, h3 | ⟨h3, h4⟩ | ⟨h3, h4, h5⟩ | ⟨h3, h4, h5, h6⟩ | ⟨h3, h4, h5, h6, h7⟩⟩⟩
        all_goals
          go_wp2_with fail
          all_goals first | (go_ret2; exact ⟨rfl, HW.out⟩) | (exfalso; omega)
end Go.Proofs.YtkkanggkbbmfnaaGreatDoor.Cn

/- the document's answer for an expression: maps of values; their plain mathematics -/
namespace Go.Proofs.YtkkanggkbbmfnaaGreatDoor.Cn
open Go.RowKit Go.Lib
open Go.Maps (Keyed)
set_option linter.unusedVariables false

/-- a map of at most n numbers, that holds true at those of p -/
def Mb (w : World) (b n : Nat) (p : Nat → Bool) : Prop :=
  ∃ D : DataW Unit, w.ownsMap Tryz.prog 3 (plainElem Tryz.prog 4) b n D ∧ ∀ i : Nat, D.atKey (.int .i64 (i : Nat)) (.lit (.bool false)) = .lit (.bool (p i))
theorem wf_nat {i : Nat} (h : i ≤ 1000000) : (Lit.int .i64 (i : Nat)).wf = true := by
  simp [Lit.wf, IntKind.min, IntKind.max, IntKind.signed, IntKind.bits]; omega
theorem key_nat {i : Nat} (h : i ≤ 1000000) : keyOf Tryz.prog 3 (.int .i64 (i : Nat)) = some (.int .i64 (i : Nat)) := Maps.keyOf_int_mk Tryz.underlying3 (wf_nat h)
theorem keyed : Keyed Tryz.prog 3 := Maps.int_keyed Tryz.underlying3
theorem Mb.made (w : World) : Mb (w.alloc (.map #[] 0)) w.heap.size 0 (fun _ => false) := ⟨_, World.ownsMap_made w _ _ _, fun _ => rfl⟩
theorem Mb.congr {w : World} {b n : Nat} {p q : Nat → Bool} (h : Mb w b n p) (e : ∀ i, p i = q i) : Mb w b n q := by
  obtain ⟨D, h1, h2⟩ := h
  exact ⟨D, h1, fun i => by rw [h2 i, e i]⟩
theorem Mb.mono {w : World} {b n m : Nat} {p : Nat → Bool} (h : Mb w b n p) (e : n ≤ m) : Mb w b m p := by
  obtain ⟨D, h1, h2⟩ := h
  exact ⟨D, h1.mono e, h2⟩
theorem Mb.at {w : World} {b n : Nat} {p : Nat → Bool} (h : Mb w b n p) : ∃ es clock, w.heap[b]? = some (.map es clock) := by
  obtain ⟨D, ⟨es, clock, h1, _⟩, _⟩ := h
  exact ⟨es, clock, h1⟩
theorem Mb.lt {w : World} {b n : Nat} {p : Nat → Bool} (h : Mb w b n p) : b < w.heap.size := by
  obtain ⟨es, c, e⟩ := h.at
  exact (Array.getElem?_eq_some_iff.1 e).1
theorem Mb.kept {w Y : World} {b n : Nat} {p : Nat → Bool} (h : Mb w b n p) (e : Y.heap[b]? = w.heap[b]?) : Mb Y b n p := by
  obtain ⟨D, ⟨es, clock, h1, h2⟩, h3⟩ := h
  exact ⟨D, ⟨es, clock, e.trans h1, h2⟩, h3⟩
theorem Mb.old {w Y : World} {b n : Nat} {p : Nat → Bool} (h : Mb w b n p) (e : Below w.heap.size w Y) : Mb Y b n p := h.kept (e.block b h.lt)
set_option maxRecDepth 20000 in
theorem Mb.look {w Y : World} {b n : Nat} {p : Nat → Bool} (h : Mb w b n p) (e : Y.heap[b]? = w.heap[b]?) {i : Nat} (hi : i ≤ 1000000) :
    (Instr.lookup 69 (.map (some b)) (.int .i64 (i : Nat)) false).run Tryz.prog Y = .ok (.bool (p i)) Y := by
  obtain ⟨D, hm, hD⟩ := h.kept e
  have hz : (zeroValue 4).run Tryz.prog Y = .ok (.bool false) Y := by go_simp
  obtain ⟨v, ps, hr, hv⟩ := hm.lookup keyed Tryz.underlying69 hz (z := .bool false) (zd := .lit (.bool false)) (zp := []) (plainElem_bool Tryz.underlying4 false) (key_nat hi)
  rw [hD i] at hv
  have : v = .bool (p i) := by
    unfold plainElem at hv
    rw [Tryz.underlying4] at hv
    cases v <;> simp at hv
    rw [hv.1]
  rw [this] at hr
  exact hr
theorem Mb.put {w : World} {b n : Nat} {p : Nat → Bool} (h : Mb w b n p) (hn : n ≤ 1000000) {i : Nat} (hi : i ≤ 1000000) :
    ∃ w2, (Instr.mapUpdate 69 (.map (some b)) (.int .i64 (i : Nat)) (.bool true)).run Tryz.prog w = .ok () w2 ∧ Mb w2 b (n + 1) (fun j => p j || decide (j = i)) ∧ w.grownBy w2 (some b) := by
  obtain ⟨D, hm, hD⟩ := h
  obtain ⟨w2, hr, hm2, hg2⟩ := hm.update keyed Tryz.underlying69 (by unfold maxLen; omega) (key_nat hi) (plainElem_bool Tryz.underlying4 true)
  refine ⟨w2, hr, ⟨_, hm2, fun j => ?_⟩, hg2⟩
  by_cases e : j = i
  · subst e
    rw [Maps.atKey_put_same hm.isMap (by trivial)]
    simp
  · rw [Maps.atKey_put_other (by simp; omega), hD j]
    simp [e]
theorem grown_of {b : Nat} {w w' : World} (h : Below w.heap.size w w') : w.grownBy w' (some b) := ⟨h.os, h.tape, h.output, h.size, fun k hk _ => h.block k hk⟩
theorem grown_below {B b : Nat} {a w w' : World} (h : Below B a w) (hg : w.grownBy w' (some b)) (hB : B ≤ w.heap.size) (hb : B ≤ b) : Below B a w' := h.grown hg hB (fun k e => by cases e; exact hb)
/-- a row of cells isn't a map's block -/
theorem row_kept {w w' : World} {B b : Nat} {e : TypeId} {v : Value} {n : Nat} {xs : List Value} (h : w.ownsRow B e 1 v n xs) (hg : w.grownBy w' (some b)) (hb : ∃ es clock, w.heap[b]? = some (.map es clock)) : w'.ownsRow B e 1 v n xs := by
  refine h.kept hg ?_
  cases hv : v.ownBlock with
  | none => exact .inl rfl
  | some g =>
    refine .inr fun e2 => ?_
    obtain rfl := Option.some.inj e2
    obtain ⟨es, clock, hm⟩ := hb
    rcases h.2 with ⟨rfl, _⟩ | ⟨g', cap, cur, rfl, _, hg', _⟩
    · cases hv
    · cases hv
      rw [hg'] at hm; cases hm
/-- a weekday's number -/
def fx (i x : Nat) : Nat := if i = 4 ∧ x = 7 then 0 else x
/-- a field's values, by its pieces -/
def fp (i : Nat) (qs : List L) (z : Nat) : Bool := if i = 4 then fold (setF (fds i) qs) z else setF (fds i) qs z
theorem fp_zero (i z : Nat) : fp i [] z = false := by unfold fp fold setF; split <;> simp
theorem fp_next (i : Nat) (qs : List L) (p : L) (l : List Nat) (h : ∀ z, z ∈ l ↔ inP (readT (fds i) p).1 z = true) (z : Nat) :
    fp i (qs ++ [p]) z = (fp i qs z || l.any fun x => decide (fx i x = z)) := by
  have h2 : ∀ y, setF (fds i) (qs ++ [p]) y = (setF (fds i) qs y || decide (y ∈ l)) := fun y => by
    unfold setF
    rw [List.any_append, List.any_cons, List.any_nil, Bool.or_false]
    congr 1
    rw [Bool.eq_iff_iff, decide_eq_true_eq]
    exact (h y).symm
  unfold fp
  by_cases hi : i = 4
  · rw [if_pos hi, if_pos hi]
    unfold fold
    rw [h2, h2, Bool.eq_iff_iff]
    simp only [Bool.or_eq_true, Bool.and_eq_true, decide_eq_true_eq, Bool.not_eq_true', decide_eq_false_iff_not, List.any_eq_true]
    unfold fx
    constructor
    · rintro (⟨h3 | h3, h4⟩ | ⟨h3, h4 | h4⟩)
      · exact .inl (.inl ⟨h3, h4⟩)
      · exact .inr ⟨z, h3, by rw [if_neg (by omega)]⟩
      · exact .inl (.inr ⟨h3, h4⟩)
      · exact .inr ⟨7, h4, by rw [if_pos ⟨hi, rfl⟩]; omega⟩
    · rintro ((⟨h3, h4⟩ | ⟨h3, h4⟩) | ⟨x, h3, h4⟩)
      · exact .inl ⟨.inl h3, h4⟩
      · exact .inr ⟨h3, .inl h4⟩
      · by_cases hx : x = 7
        · rw [if_pos ⟨hi, hx⟩] at h4
          subst hx
          exact .inr ⟨h4.symm, .inr h3⟩
        · rw [if_neg (by omega)] at h4
          subst h4
          exact .inl ⟨.inr h3, hx⟩
  · rw [if_neg hi, if_neg hi, h2, Bool.eq_iff_iff]
    simp only [Bool.or_eq_true, decide_eq_true_eq, List.any_eq_true]
    unfold fx
    constructor
    · rintro (h3 | h3)
      · exact .inl h3
      · exact .inr ⟨z, h3, by rw [if_neg (by omega)]⟩
    · rintro (h3 | ⟨x, h3, h4⟩)
      · exact .inl h3
      · rw [if_neg (by omega)] at h4
        subst h4; exact .inr h3
end Go.Proofs.YtkkanggkbbmfnaaGreatDoor.Cn

/- the document's answer for an expression: of a text that is right -/
namespace Go.Proofs.YtkkanggkbbmfnaaGreatDoor.Cn
open Go.RowKit Go.Lib
set_option linter.unusedVariables false
set_option linter.unusedSimpArgs false

theorem info69 : (Tryz.prog.info? 69).map (fun i => (i.zero, i.size, i.bytes)) = some (some (.map none), 1, 8) := by kernel_rfl
abbrev maps (l : List Nat) : List Value := l.map fun b => .map (some b)
/-- what lies while an expression is read: the texts, the maps of the fields ahead -/
structure Pm (w : World) (ts : List L) (g5 c5 : Nat) (v6 : Value) (ms : List Nat) (W : World) : Prop where
  row : W.ownsRow w.heap.size 9 1 (.slice (some ⟨g5, 0, none⟩) 5 c5) 5 (strs ts)
  out : W.ownsRow w.heap.size 69 1 v6 ms.length (maps ms)
  maps : ∀ (j b : Nat) (t : L), ms[j]? = some b → ts[j]? = some t → Mb W b 10000 (fp j (sp 44 t)) ∧ w.heap.size ≤ b
  bel : Below w.heap.size w W
theorem Pm.old {w : World} {ts : List L} {g5 c5 : Nat} {v6 : Value} {ms : List Nat} {W W' : World} (h : Pm w ts g5 c5 v6 ms W) (hb : Below W.heap.size W W') : Pm w ts g5 c5 v6 ms W' :=
  ⟨h.row.kept (grown_of (b := W.heap.size) hb) (.inr fun e => by have h1 := (h.row.lt g5 rfl).2; have h2 : g5 = W.heap.size := Option.some.inj e; omega),
   h.out.kept (grown_of (b := W.heap.size) hb) (by
     cases hv : v6.ownBlock with
     | none => exact .inl rfl
     | some g => exact .inr fun e => by have h1 := (h.out.lt g hv).2; have h2 : g = W.heap.size := Option.some.inj e; omega),
   fun j b t h1 h2 => ⟨(h.maps j b t h1 h2).1.old hb, (h.maps j b t h1 h2).2⟩, h.bel.trans (hb.mono h.bel.size)⟩
theorem Pm.grown {w : World} {ts : List L} {g5 c5 : Nat} {v6 : Value} {ms : List Nat} {W W' : World} {b : Nat} (h : Pm w ts g5 c5 v6 ms W) (hg : W.grownBy W' (some b)) (hm : ∃ es clock, W.heap[b]? = some (.map es clock)) (hb : w.heap.size ≤ b) (hn : b ∉ ms) (hl : ms.length ≤ ts.length) : Pm w ts g5 c5 v6 ms W' :=
  ⟨row_kept h.row hg hm, row_kept h.out hg hm, fun j b' t h1 h2 => by
    obtain ⟨h3, h4⟩ := h.maps j b' t h1 h2
    exact ⟨h3.kept (hg.block b' h3.lt (fun e => hn (by cases e; exact List.mem_of_getElem? h1))), h4⟩, grown_below h.bel hg h.bel.size hb⟩
theorem cells_differ {w : World} {B B' : Nat} {v v' : Value} {n n' : Nat} {xs xs' : List Value} (h : w.ownsRow B 9 1 v n xs) (k : w.ownsRow B' 69 1 v' n' xs') : v.ownBlock = none ∨ v.ownBlock ≠ v'.ownBlock := by
  rcases h.2 with ⟨rfl, _⟩ | ⟨g, cap, cur, rfl, _, hg, _⟩
  · exact .inl rfl
  · refine .inr fun e => ?_
    rcases k.2 with ⟨rfl, _⟩ | ⟨g', cap', cur', rfl, _, hg', _⟩
    · cases e
    · have h2 : g = g' := Option.some.inj e
      subst h2
      rw [hg] at hg'
      have h3 := (Obj.cells.inj (Option.some.inj hg')).2.1
      revert h3; decide
theorem map_apart {w : World} {B b n : Nat} {v : Value} {m : Nat} {xs : List Value} {e : TypeId} {p : Nat → Bool} (h : Mb w b n p) (k : w.ownsRow B e 1 v m xs) : some b ≠ v.ownBlock := by
  intro e2
  obtain ⟨es, clock, hm⟩ := h.at
  rcases k.2 with ⟨rfl, _⟩ | ⟨g', cap', cur', rfl, _, hg', _⟩
  · cases e2
  · have h2 : b = g' := Option.some.inj e2
    subst h2
    rw [hg'] at hm; cases hm
theorem Pm.push {w : World} {ts : List L} {g5 c5 : Nat} {v6 v' : Value} {ms : List Nat} {W W7 : World} {b : Nat} {o : Obj} {t : L} (h : Pm w ts g5 c5 v6 ms W) (ho : W7.ownsRow w.heap.size 69 1 v' (ms.length + 1) (Cn.maps ms ++ [.map (some b)]))
    (hg : (W.alloc o).grownBy W7 v6.ownBlock) (hb : Mb W b 10000 (fp ms.length (sp 44 t))) (ht : ts[ms.length]? = some t) (hB : w.heap.size ≤ b) : Pm w ts g5 c5 v' (ms ++ [b]) W7 := by
  have h1 := h.old ((Below.refl W.heap.size W).alloc (Nat.le_refl _) o)
  have hb1 := hb.old ((Below.refl W.heap.size W).alloc (Nat.le_refl _) o)
  refine ⟨h1.row.kept hg (cells_differ h1.row h1.out), ?_, ?_, h1.bel.grown hg h1.bel.size (fun g e => (h1.out.lt g e).1)⟩
  · have e1 : (ms ++ [b]).length = ms.length + 1 := by simp
    have e2 : Cn.maps (ms ++ [b]) = Cn.maps ms ++ [.map (some b)] := by simp [Cn.maps]
    rw [e1, e2]; exact ho
  · intro j b' t' hj ht'
    by_cases hjl : j < ms.length
    · rw [List.getElem?_append_left hjl] at hj
      obtain ⟨h3, h4⟩ := h1.maps j b' t' hj ht'
      exact ⟨h3.kept (hg.block b' h3.lt (map_apart h3 h1.out)), h4⟩
    · have hjm : j = ms.length := by
        have := (List.getElem?_eq_some_iff.1 hj).1
        simp at this; omega
      subst hjm
      rw [ht] at ht'
      obtain rfl := Option.some.inj ht'
      have : b' = b := by simpa using hj.symm
      subst this
      exact ⟨hb1.kept (hg.block b' hb1.lt (map_apart hb1 h1.out)), hB⟩
/-- what is told of a text that is right -/
def TellsE (ts : List L) (w : World) (e : Ending) (W : World) : Prop :=
  ∃ v6 g5 c5 ms, e = .returned (.tuple #[v6, .slice (some ⟨g5, 0, none⟩) 5 c5, .int .i64 0]) ∧ ms.length = 5 ∧ Pm w ts g5 c5 v6 ms W
theorem errs_get {ts : List L} : ∀ {i : Nat}, errs i ts = 0 → ∀ (j : Nat) (t : L), ts[j]? = some t → errF (fds (i + j)) (sp 44 t) = 0 := by
  induction ts with
  | nil => intro i _ j t h; simp at h
  | cons x ts ih =>
    intro i h j t ht
    rw [errs] at h
    by_cases hx : errF (fds i) (sp 44 x) = 0
    · rw [if_pos hx] at h
      cases j with
      | zero =>
        simp at ht; subst ht; exact hx
      | succ j =>
        have := ih h j t (by simpa using ht)
        rwa [show i + (j + 1) = i + 1 + j by omega]
    · rw [if_neg hx] at h; exact absurd h hx
set_option maxRecDepth 20000 in
set_option maxHeartbeats 16000000 in
theorem rparse_any (s : L) (hs : parseE s = 0) (w : World) :
    Calls Tryz.prog 20 #[S s] w (TellsE (sp 32 s) w) := by
  have hP := hs
  unfold parseE at hP
  have h128 : ¬ 128 < s.length := fun x => by rw [if_pos x] at hP; cases hP
  rw [if_neg h128] at hP
  have h5 : (sp 32 s).length = 5 := Decidable.byContradiction fun x => by rw [if_neg x] at hP; cases hP
  rw [if_pos h5] at hP
  have herr := errs_get hP
  have hlen : ∀ t ∈ sp 32 s, t.length ≤ 128 := fun t ht => by have := (sp_mem_len ht).1; omega
  have hspl := rsplit_any s (by omega) 32 w
  rw [h5] at hspl
  generalize sp 32 s = ts at h5 herr hlen hspl
  have hz := size_S s
  have hsI : ((s.length : Nat) : Int) ≤ 128 := by omega
  obtain ⟨i0, hi0, hz0, hz1, hz2⟩ := info_parts info69
  have HS := Lib.hid hspl
  have HE := Lib.hid (And.intro herr (And.intro hlen h5))
  have hmm := @run_makeMap Tryz.prog
  clear hspl herr hlen h5 hP hs h128
  go_enter Tryz.func20, Tryz.ntmps20
  go_wp2_with fail
  refine HS.out.mono ?_
  rintro e w1 ⟨⟨v5, rfl, hown⟩, hb1⟩
  obtain ⟨g5, c5, rfl⟩ : ∃ g c, v5 = .slice (some ⟨g, 0, none⟩) 5 c := by
    rcases hown.2 with ⟨rfl, h9⟩ | ⟨g, cap, cur, rfl, _⟩
    · omega
    · exact ⟨_, _, rfl⟩
  have H1 := Lib.hid (show Pm w ts g5 c5 (.slice none 0 0) [] w1 from ⟨hown, World.ownsRow_nil _ _ _ _, fun j b t h1 _ => by simp at h1, hb1⟩)
  clear hown hb1
  go_wp2_with fail
  go_loopw [26, 6] (fun x v wr => ∃ (i : Nat) (ms : List Nat), x = .int .i64 (i : Nat) ∧ i ≤ 5 ∧ ms.length = i ∧ Pm w ts g5 c5 v ms wr) (fun x _ _ => 5 - (RowKit.intOf x).toNat)
  case atStart => exact ⟨0, [], rfl, Nat.zero_le _, rfl, H1.out⟩
  case round =>
    obtain ⟨i, ms, rfl, hi, hml, hpm⟩ := hrel
    have HP := Lib.hid (And.intro hpm hml)
    clear hpm hml
    by_cases hlt : i < 5
    · have hltI : ((i : Nat) : Int) < 5 := by omega
      obtain ⟨t, ht⟩ : ∃ t, ts[i]? = some t := by rw [List.getElem?_eq_getElem (by rw [HE.out.2.2]; exact hlt)]; exact ⟨_, rfl⟩
      have hcell : wr.cell? ⟨g5, i, none⟩ = some (S t) := row_at HP.out.1.row (by rw [List.getElem?_map, ht]; rfl)
      have htl := HE.out.2.1 t (List.mem_of_getElem? ht)
      have hte : errF (fds i) (sp 44 t) = 0 := by have := HE.out.1 i t ht; rwa [Nat.zero_add] at this
      have hsp := fun W => rsplit_any t (by omega) 44 W
      have HT := Lib.hid (And.intro ht (And.intro htl (And.intro hte (And.intro hsp hlt))))
      clear ht htl hte hsp hlt
      go_wp2_with fail
      refine (HT.out.2.2.2.1 _).mono ?_
      rintro e w3 ⟨⟨v33, rfl, hown3⟩, hb3⟩
      have hal : Below wr.heap.size wr (wr.alloc (.map #[] 0)) := (Below.refl _ _).alloc (Nat.le_refl _) _
      have hnb : wr.heap.size ∉ ms := fun hm => by
        obtain ⟨j, hj⟩ := List.getElem?_of_mem hm
        have hjl := (List.getElem?_eq_some_iff.1 hj).1
        rw [HP.out.2] at hjl
        have := (HP.out.1.maps j _ _ hj (List.getElem?_eq_getElem (by rw [HE.out.2.2]; omega))).1.lt
        omega
      have H3 := Lib.hid (And.intro ((HP.out.1.old hal).old hb3) (And.intro ((Mb.made wr).old hb3) (And.intro hown3 (And.intro hnb HP.out.1.bel.size))))
      clear hal hb3 hnb
      obtain ⟨n1, hn1⟩ : ∃ n, n = (sp 44 t).length := ⟨_, rfl⟩
      have hn1l : n1 ≤ 129 := by
        have h1 := sp_length 44 t
        have h2 : t.count 44 ≤ t.length := List.count_le_length
        have := HT.out.2.1
        omega
      obtain ⟨ao, cp, rfl⟩ : ∃ ao cp, v33 = .slice ao n1 cp := by
        rcases hown3.2 with ⟨rfl, h9⟩ | ⟨g, cap, cur, rfl, _⟩
        · exact ⟨_, _, by rw [hn1, h9]⟩
        · exact ⟨_, _, by rw [hn1]⟩
      have HN1 := Lib.hid hn1
      clear hn1 hown3
      go_wp2_with fail
      obtain ⟨b, hbb⟩ : ∃ b, b = wr.heap.size := ⟨_, rfl⟩
      rw [← hbb] at H3 ⊢
      clear hbb
      go_loopw [35] (fun x wq => ∃ k : Nat, x = .int .i64 (k : Nat) ∧ k ≤ n1 ∧ w3.grownBy wq (some b) ∧ Mb wq b (60 * k) (fp i ((sp 44 t).take k))) (fun x _ => 200 - (RowKit.intOf x).toNat)
      case atStart => exact ⟨0, rfl, Nat.zero_le _, World.grownBy.refl _ _, H3.out.2.1.congr fun z => (fp_zero i z).symm⟩
      case round =>
        obtain ⟨k, rfl, hk, hgr, hmb⟩ := hrel
        have HQ := Lib.hid (And.intro hgr hmb)
        clear hgr hmb
        by_cases hlt : k < n1
        · have hltI : ((k : Nat) : Int) < ((n1 : Nat) : Int) := by omega
          obtain ⟨p, hp⟩ : ∃ p, (sp 44 t)[k]? = some p := by rw [List.getElem?_eq_getElem (by rw [← HN1.out]; exact hlt)]; exact ⟨_, rfl⟩
          have hrow := row_kept H3.out.2.2.1 HQ.out.1 H3.out.2.1.at
          obtain ⟨g33, rfl⟩ : ∃ g, ao = some ⟨g, 0, none⟩ := by
            rcases hrow.2 with ⟨h1, h9⟩ | ⟨g, cap, cur, h1, _⟩
            · rw [← HN1.out] at h9; omega
            · cases h1; exact ⟨_, rfl⟩
          have hcell2 : wr.cell? ⟨g33, k, none⟩ = some (S p) := row_at (n := n1) (by have := hrow; rwa [← HN1.out] at this) (by rw [List.getElem?_map, hp]; rfl)
          have hpl := (sp_mem_len (List.mem_of_getElem? hp)).1
          have hpe := field_in HT.out.2.2.1 p (List.mem_of_getElem? hp)
          have hpt := rpart_any i HT.out.2.2.2.2 p (by have := HT.out.2.1; omega) hpe wr
          obtain ⟨hr1, hr2, hr3, _⟩ := part_in hpe
          have hhi := (fds_ok i).hi
          have HPt := Lib.hid (And.intro hpt (And.intro hp (And.intro (Nat.le_trans hr3 hhi) hrow)))
          clear hpl hpe hpt hr1 hr2 hr3 hhi hp hrow
          go_wp2_with fail
          refine HPt.out.1.mono ?_
          rintro e w4 ⟨⟨v12, kk, rfl, hown4, hkk, hmem⟩, hb4⟩
          obtain ⟨a4, c4, rfl⟩ : ∃ ao cp, v12 = .slice ao kk cp := by
            rcases hown4.2 with ⟨rfl, h9⟩ | ⟨g, cap, cur, rfl, _⟩
            · exact ⟨_, _, by rw [h9]⟩
            · exact ⟨_, _, rfl⟩
          have hl3 : (vals (readT (fds i) p).1.1 (readT (fds i) p).1.2.2 kk).length = kk := by unfold vals; simp
          obtain ⟨vl, hvl⟩ : ∃ l, l = vals (readT (fds i) p).1.1 (readT (fds i) p).1.2.2 kk := ⟨_, rfl⟩
          rw [← hvl] at hown4 hmem hl3
          have hv59 : ∀ x ∈ vl, x ≤ 59 := fun x hx => by
            have h1 := (hmem x).1 hx
            have h2 := HPt.out.2.2.1
            simp only [inP, Bool.and_eq_true, decide_eq_true_eq] at h1
            omega
          have H4 := Lib.hid (And.intro hown4 (And.intro hmem (And.intro hb4 (And.intro hl3 hv59))))
          have hmb4 := HQ.out.2.old hb4
          have H5 := Lib.hid hmb4
          clear hown4 hmem hb4 hl3 hvl hv59 hmb4
          go_wp2_with fail
          go_loopw [50] (fun x wq => ∃ q : Nat, x = .int .i64 (q : Nat) ∧ q ≤ kk ∧ w4.grownBy wq (some b) ∧ Mb wq b (60 * k + q) (fun z => fp i ((sp 44 t).take k) z || (vl.take q).any fun x => decide (fx i x = z))) (fun x _ => 200 - (RowKit.intOf x).toNat)
          case atStart => exact ⟨0, rfl, Nat.zero_le _, World.grownBy.refl _ _, H5.out.congr fun z => by simp⟩
          case round =>
            obtain ⟨q, rfl, hq, hgr, hmb⟩ := hrel
            have HR := Lib.hid (And.intro hgr hmb)
            clear hgr hmb
            by_cases hlq : q < kk
            · have hlqI : ((q : Nat) : Int) < ((kk : Nat) : Int) := by omega
              obtain ⟨x, hx⟩ : ∃ x, vl[q]? = some x := by rw [List.getElem?_eq_getElem (by rw [H4.out.2.2.2.1]; exact hlq)]; exact ⟨_, rfl⟩
              have hrow4 := row_kept H4.out.1 HR.out.1 H5.out.at
              obtain ⟨g4, rfl⟩ : ∃ g, a4 = some ⟨g, 0, none⟩ := by
                rcases hrow4.2 with ⟨h1, h9⟩ | ⟨g, cap, cur, h1, _⟩
                · omega
                · cases h1; exact ⟨_, rfl⟩
              have hcell3 : wr.cell? ⟨g4, q, none⟩ = some (.int .i64 (x : Nat)) := row_at hrow4 (by rw [List.getElem?_map, hx]; rfl)
              have hx59 := H4.out.2.2.2.2 x (List.mem_of_getElem? hx)
              obtain ⟨w5, hr5, hm5, hg5⟩ := HR.out.2.put (i := fx i x) (by omega) (by unfold fx; split <;> omega)
              have hbel5 : ∀ z, (fp i ((sp 44 t).take k) z || (vl.take q).any (fun x => decide (fx i x = z)) || decide (z = fx i x)) = (fp i ((sp 44 t).take k) z || (vl.take (q + 1)).any fun x => decide (fx i x = z)) := fun z => by
                rw [List.take_add_one, hx]
                simp only [Option.toList, List.any_append, List.any_cons, List.any_nil, Bool.or_false, Bool.or_assoc]
                rw [decide_eq_decide.2 (eq_comm (a := z) (b := fx i x))]
              have HY := Lib.hid (And.intro (HR.out.1.trans hg5) (hm5.congr hbel5))
              clear hm5 hg5 hbel5 hrow4 hx
              by_cases hi4 : i = 4
              · by_cases hx7 : x = 7
                · have hfx : fx i x = 0 := by unfold fx; rw [if_pos ⟨hi4, hx7⟩]
                  rw [hfx] at hr5
                  have hr6 : (Instr.mapUpdate 69 (.map (some b)) (.int .i64 0) (.bool true)).run Tryz.prog wr = .ok () w5 := hr5
                  have m4 : (((i : Nat) : Int) == 4) = true := by simp; omega
                  have m7 : (((x : Nat) : Int) == 7) = true := by simp; omega
                  clear hfx hi4 hx7 hr5
                  go_wp2_with fail
                  exact ⟨⟨q + 1, by simp, by omega, HY.out.1, HY.out.2⟩, by simp [RowKit.intOf]; omega⟩
                · have hfx : fx i x = x := by unfold fx; rw [if_neg (fun h => hx7 h.2)]
                  rw [hfx] at hr5
                  have m4 : (((i : Nat) : Int) == 4) = true := by simp; omega
                  have m7 : (((x : Nat) : Int) == 7) = false := by simp; omega
                  clear hfx hi4 hx7
                  go_wp2_with fail
                  exact ⟨⟨q + 1, by simp, by omega, HY.out.1, HY.out.2⟩, by simp [RowKit.intOf]; omega⟩
              · have hfx : fx i x = x := by unfold fx; rw [if_neg (fun h => hi4 h.1)]
                rw [hfx] at hr5
                have m4 : (((i : Nat) : Int) == 4) = false := by simp; omega
                clear hfx hi4
                go_wp2_with fail
                exact ⟨⟨q + 1, by simp, by omega, HY.out.1, HY.out.2⟩, by simp [RowKit.intOf]; omega⟩
            · have hqk : q = kk := by omega
              subst hqk
              have htk : (sp 44 t).take (k + 1) = (sp 44 t).take k ++ [p] := by rw [List.take_add_one, HPt.out.2.1]; rfl
              have hvt : vl.take q = vl := by rw [← H4.out.2.2.2.1, List.take_length]
              have hm9 := HR.out.2
              rw [hvt] at hm9
              have hfin : Mb wr b (60 * (k + 1)) (fp i ((sp 44 t).take (k + 1))) := (hm9.mono (by omega)).congr fun z => by rw [htk, fp_next i _ p vl H4.out.2.1 z]
              have HF := Lib.hid (And.intro (HQ.out.1.trans ((grown_of H4.out.2.2.1).trans HR.out.1)) hfin)
              clear hvt hm9 hfin htk hlq
              go_wp2_with fail
              exact ⟨⟨k + 1, by simp, by omega, HF.out.1, HF.out.2⟩, by simp [RowKit.intOf]; omega⟩
        · have hkn : k = n1 := by omega
          have hm9 := HQ.out.2
          rw [hkn, HN1.out, List.take_length] at hm9
          have hm10 : Mb wr b 10000 (fp ms.length (sp 44 t)) := by rw [HP.out.2]; exact hm9.mono (by rw [← HN1.out]; omega)
          have hpm9 := H3.out.1.grown HQ.out.1 H3.out.2.1.at H3.out.2.2.2.2 H3.out.2.2.2.1 (by rw [HP.out.2, HE.out.2.2]; omega)
          have hown9 := hpm9.out
          have hlI : ¬ ((k : Nat) : Int) < ((n1 : Nat) : Int) := by omega
          have HM := Lib.hid (And.intro hm10 (And.intro hpm9 (And.intro hpm9.bel.size (show ts[ms.length]? = some t by rw [HP.out.2]; exact HT.out.1))))
          have hml5 : ms.length ≤ 5 := by rw [HP.out.2]; exact hi
          clear hm9 hm10 hpm9 hkn hlt
          go_wp2_with (at_builtin; refine wpList_append_own _ rfl _ _ 48 rfl w.heap.size 69 i0 (.map none) 1 8 Tryz.underlying48 hi0 hz0 hz1 hz2 rfl (by decide) _ _ _ rfl (hown9.alloc _) ⟨wr.heap.size, 0, none⟩ 1 1 [.map (some b)] rfl rfl ?c1 ?c2 ?c3 ?c4 ?c5 ?_)
          case c2 => rfl
          case c3 => have : maxLen = 9223372036854775807 := rfl; omega
          case c4 => omega
          case c5 => have := HM.out.2.2.1; first | omega | (simp; omega)
          intro v' w9 hown' hgrow _
          obtain ⟨a9, c9, rfl⟩ : ∃ ao cp, v' = .slice ao (ms.length + 1) cp := by
            rcases hown'.2 with ⟨rfl, h9⟩ | ⟨g, cap, cur, rfl, _⟩
            · omega
            · exact ⟨_, _, rfl⟩
          have hnew := HM.out.2.1.push hown' hgrow HM.out.1 HM.out.2.2.2 H3.out.2.2.2.2
          have HW := Lib.hid hnew
          clear hown' hgrow hnew hown9
          go_wp2_with fail
          exact ⟨⟨i + 1, ms ++ [b], by simp, by have := HT.out.2.2.2.2; omega, by rw [List.length_append, HP.out.2]; rfl, HW.out⟩, by have := HT.out.2.2.2.2; simp [RowKit.intOf]; omega⟩
    · have hi5 : i = 5 := by omega
      subst hi5
      obtain ⟨ao, cp, rfl⟩ : ∃ ao cp, u6 = .slice ao 5 cp := by
        have := HP.out.1.out
        rw [HP.out.2] at this
        rcases this.2 with ⟨rfl, h9⟩ | ⟨g, cap, cur, rfl, _⟩
        · omega
        · exact ⟨_, _, rfl⟩
      go_wp2_with fail
      go_ret3
      exact ⟨_, g5, c5, ms, rfl, HP.out.2, HP.out.1⟩
end Go.Proofs.YtkkanggkbbmfnaaGreatDoor.Cn

/- the document's answer for an expression: of a text that is wrong -/
namespace Go.Proofs.YtkkanggkbbmfnaaGreatDoor.Cn
open Go.RowKit Go.Lib
set_option linter.unusedVariables false
set_option linter.unusedSimpArgs false

theorem errF_drop (f : Fd) : ∀ (ps : List L) (k : Nat), (∀ j, j < k → ∀ p, ps[j]? = some p → errP f p = 0) → errF f ps = errF f (ps.drop k)
  | ps, 0, _ => rfl
  | [], k + 1, _ => rfl
  | p :: ps, k + 1, h => by
    have h0 := h 0 (Nat.succ_pos k) p rfl
    rw [errF, if_pos h0, List.drop_succ_cons]
    exact errF_drop f ps k fun j hj q hq => h (j + 1) (by omega) q (by simpa using hq)
theorem errF_first {f : Fd} {ps : List L} {k : Nat} {p : L} (h : ∀ j, j < k → ∀ p, ps[j]? = some p → errP f p = 0) (hp : ps[k]? = some p) (he : errP f p ≠ 0) : errF f ps = errP f p := by
  obtain ⟨hl, hg⟩ := List.getElem?_eq_some_iff.1 hp
  rw [errF_drop f ps k h, List.drop_eq_getElem_cons hl, hg, errF, if_neg he]
theorem errF_all {f : Fd} {ps : List L} (h : ∀ (j : Nat) (p : L), ps[j]? = some p → errP f p = 0) : errF f ps = 0 := by
  rw [errF_drop f ps ps.length fun j _ p hp => h j p hp, List.drop_length]; rfl
set_option maxRecDepth 20000 in
set_option maxHeartbeats 16000000 in
theorem rparse_five (s : L) (h128 : s.length ≤ 128) (h5 : (sp 32 s).length = 5) (E : Nat) (hE : errs 0 (sp 32 s) = E) (hE0 : E ≠ 0) (w : World) :
    Calls Tryz.prog 20 #[S s] w fun e w' => e = .returned (.tuple #[.slice none 0 0, .slice none 0 0, .int .i64 (E : Nat)]) ∧ Below w.heap.size w w' := by
  have hlen : ∀ t ∈ sp 32 s, t.length ≤ 128 := fun t ht => by have := (sp_mem_len ht).1; omega
  have hspl := rsplit_any s (by omega) 32 w
  rw [h5] at hspl
  generalize sp 32 s = ts at h5 hE hlen hspl
  have hz := size_S s
  have hsI : ((s.length : Nat) : Int) ≤ 128 := by omega
  obtain ⟨i0, hi0, hz0, hz1, hz2⟩ := info_parts info69
  have HS := Lib.hid hspl
  have HE := Lib.hid (And.intro (And.intro hE hE0) (And.intro hlen h5))
  have hmm := @run_makeMap Tryz.prog
  clear hspl hlen h5 h128 hE hE0
  go_enter Tryz.func20, Tryz.ntmps20
  go_wp2_with fail
  refine HS.out.mono ?_
  rintro e w1 ⟨⟨v5, rfl, hown⟩, hb1⟩
  obtain ⟨g5, c5, rfl⟩ : ∃ g c, v5 = .slice (some ⟨g, 0, none⟩) 5 c := by
    rcases hown.2 with ⟨rfl, h9⟩ | ⟨g, cap, cur, rfl, _⟩
    · omega
    · exact ⟨_, _, rfl⟩
  have H1 := Lib.hid (show Pm w ts g5 c5 (.slice none 0 0) [] w1 from ⟨hown, World.ownsRow_nil _ _ _ _, fun j b t h1 _ => by simp at h1, hb1⟩)
  clear hown hb1
  go_wp2_with fail
  go_loopw [26, 6] (fun x v wr => ∃ (i : Nat) (ms : List Nat), x = .int .i64 (i : Nat) ∧ i ≤ 5 ∧ ms.length = i ∧ Pm w ts g5 c5 v ms wr ∧ ∀ j, j < i → ∀ t, ts[j]? = some t → errF (fds j) (sp 44 t) = 0) (fun x _ _ => 5 - (RowKit.intOf x).toNat)
  case atStart => exact ⟨0, [], rfl, Nat.zero_le _, rfl, H1.out, fun j h => absurd h (Nat.not_lt_zero j)⟩
  case round =>
    obtain ⟨i, ms, rfl, hi, hml, hpm, hok⟩ := hrel
    have HP := Lib.hid (And.intro hpm hml)
    have HK := Lib.hid hok
    clear hpm hml hok
    by_cases hlt : i < 5
    · have hltI : ((i : Nat) : Int) < 5 := by omega
      obtain ⟨t, ht⟩ : ∃ t, ts[i]? = some t := by rw [List.getElem?_eq_getElem (by rw [HE.out.2.2]; exact hlt)]; exact ⟨_, rfl⟩
      have hcell : wr.cell? ⟨g5, i, none⟩ = some (S t) := row_at HP.out.1.row (by rw [List.getElem?_map, ht]; rfl)
      have htl := HE.out.2.1 t (List.mem_of_getElem? ht)
      have hte : errF (fds i) (sp 44 t) ≠ 0 → E = errF (fds i) (sp 44 t) := fun h => by rw [← HE.out.1.1]; exact errs_at HK.out ht h
      have hsp := fun W => rsplit_any t (by omega) 44 W
      have HT := Lib.hid (And.intro ht (And.intro htl (And.intro hte (And.intro hsp hlt))))
      clear ht htl hte hsp hlt
      go_wp2_with fail
      refine (HT.out.2.2.2.1 _).mono ?_
      rintro e w3 ⟨⟨v33, rfl, hown3⟩, hb3⟩
      have hal : Below wr.heap.size wr (wr.alloc (.map #[] 0)) := (Below.refl _ _).alloc (Nat.le_refl _) _
      have hnb : wr.heap.size ∉ ms := fun hm => by
        obtain ⟨j, hj⟩ := List.getElem?_of_mem hm
        have hjl := (List.getElem?_eq_some_iff.1 hj).1
        rw [HP.out.2] at hjl
        have := (HP.out.1.maps j _ _ hj (List.getElem?_eq_getElem (by rw [HE.out.2.2]; omega))).1.lt
        omega
      have H3 := Lib.hid (And.intro ((HP.out.1.old hal).old hb3) (And.intro ((Mb.made wr).old hb3) (And.intro hown3 (And.intro hnb HP.out.1.bel.size))))
      clear hal hb3 hnb
      obtain ⟨n1, hn1⟩ : ∃ n, n = (sp 44 t).length := ⟨_, rfl⟩
      have hn1l : n1 ≤ 129 := by
        have h1 := sp_length 44 t
        have h2 : t.count 44 ≤ t.length := List.count_le_length
        have := HT.out.2.1
        omega
      obtain ⟨ao, cp, rfl⟩ : ∃ ao cp, v33 = .slice ao n1 cp := by
        rcases hown3.2 with ⟨rfl, h9⟩ | ⟨g, cap, cur, rfl, _⟩
        · exact ⟨_, _, by rw [hn1, h9]⟩
        · exact ⟨_, _, by rw [hn1]⟩
      have HN1 := Lib.hid hn1
      clear hn1 hown3
      go_wp2_with fail
      obtain ⟨b, hbb⟩ : ∃ b, b = wr.heap.size := ⟨_, rfl⟩
      rw [← hbb] at H3 ⊢
      clear hbb
      go_loopw [35] (fun x wq => ∃ k : Nat, x = .int .i64 (k : Nat) ∧ k ≤ n1 ∧ w3.grownBy wq (some b) ∧ Mb wq b (60 * k) (fp i ((sp 44 t).take k)) ∧ ∀ j, j < k → ∀ p, (sp 44 t)[j]? = some p → errP (fds i) p = 0) (fun x _ => 200 - (RowKit.intOf x).toNat)
      case atStart => exact ⟨0, rfl, Nat.zero_le _, World.grownBy.refl _ _, H3.out.2.1.congr fun z => (fp_zero i z).symm, fun j h => absurd h (Nat.not_lt_zero j)⟩
      case round =>
        obtain ⟨k, rfl, hk, hgr, hmb, hpk⟩ := hrel
        have HQ := Lib.hid (And.intro hgr hmb)
        have HPK := Lib.hid hpk
        clear hgr hmb hpk
        by_cases hlt : k < n1
        · have hltI : ((k : Nat) : Int) < ((n1 : Nat) : Int) := by omega
          obtain ⟨p, hp⟩ : ∃ p, (sp 44 t)[k]? = some p := by rw [List.getElem?_eq_getElem (by rw [← HN1.out]; exact hlt)]; exact ⟨_, rfl⟩
          have hrow := row_kept H3.out.2.2.1 HQ.out.1 H3.out.2.1.at
          obtain ⟨g33, rfl⟩ : ∃ g, ao = some ⟨g, 0, none⟩ := by
            rcases hrow.2 with ⟨h1, h9⟩ | ⟨g, cap, cur, h1, _⟩
            · rw [← HN1.out] at h9; omega
            · cases h1; exact ⟨_, rfl⟩
          have hcell2 : wr.cell? ⟨g33, k, none⟩ = some (S p) := row_at (n := n1) (by have := hrow; rwa [← HN1.out] at this) (by rw [List.getElem?_map, hp]; rfl)
          have hpl := (sp_mem_len (List.mem_of_getElem? hp)).1
          have hbelr : Below w.heap.size w wr := grown_below H3.out.1.bel HQ.out.1 H3.out.1.bel.size H3.out.2.2.2.2
          by_cases hpe0 : errP (fds i) p ≠ 0
          · have hbad := rpart_bad i HT.out.2.2.2.2 p (by have := HT.out.2.1; omega) hpe0 wr
            have hEp : E = errP (fds i) p := by
              have h9 := errF_first HPK.out hp hpe0
              rw [HT.out.2.2.1 (by rw [h9]; exact hpe0), h9]
            have HBd := Lib.hid (And.intro hbad (And.intro hEp hbelr))
            have hne : ((errP (fds i) p : Nat) : Int) ≠ 0 := by omega
            generalize errP (fds i) p = e9 at HBd hne
            have hne2 : (((e9 : Nat) : Int) != 0) = true := by simpa using hne
            clear hbad hEp hpe0 hbelr hp hpl hrow
            go_wp2_with fail
            refine HBd.out.1.mono ?_
            rintro e w4 ⟨rfl, hb4⟩
            have HW := Lib.hid (HBd.out.2.2.trans (hb4.mono HBd.out.2.2.size))
            clear hb4
            go_wp2_with fail
            go_ret3
            exact ⟨by rw [HBd.out.2.1]; rfl, HW.out⟩
          have hpe : errP (fds i) p = 0 := Decidable.byContradiction hpe0
          clear hpe0 hbelr
          have hpt := rpart_any i HT.out.2.2.2.2 p (by have := HT.out.2.1; omega) hpe wr
          obtain ⟨hr1, hr2, hr3, _⟩ := part_in hpe
          have hhi := (fds_ok i).hi
          have HPt := Lib.hid (And.intro hpt (And.intro hp (And.intro (Nat.le_trans hr3 hhi) (And.intro hrow hpe))))
          clear hpl hpe hpt hr1 hr2 hr3 hhi hp hrow
          go_wp2_with fail
          refine HPt.out.1.mono ?_
          rintro e w4 ⟨⟨v12, kk, rfl, hown4, hkk, hmem⟩, hb4⟩
          obtain ⟨a4, c4, rfl⟩ : ∃ ao cp, v12 = .slice ao kk cp := by
            rcases hown4.2 with ⟨rfl, h9⟩ | ⟨g, cap, cur, rfl, _⟩
            · exact ⟨_, _, by rw [h9]⟩
            · exact ⟨_, _, rfl⟩
          have hl3 : (vals (readT (fds i) p).1.1 (readT (fds i) p).1.2.2 kk).length = kk := by unfold vals; simp
          obtain ⟨vl, hvl⟩ : ∃ l, l = vals (readT (fds i) p).1.1 (readT (fds i) p).1.2.2 kk := ⟨_, rfl⟩
          rw [← hvl] at hown4 hmem hl3
          have hv59 : ∀ x ∈ vl, x ≤ 59 := fun x hx => by
            have h1 := (hmem x).1 hx
            have h2 := HPt.out.2.2.1
            simp only [inP, Bool.and_eq_true, decide_eq_true_eq] at h1
            omega
          have H4 := Lib.hid (And.intro hown4 (And.intro hmem (And.intro hb4 (And.intro hl3 hv59))))
          have hmb4 := HQ.out.2.old hb4
          have H5 := Lib.hid hmb4
          clear hown4 hmem hb4 hl3 hvl hv59 hmb4
          go_wp2_with fail
          go_loopw [50] (fun x wq => ∃ q : Nat, x = .int .i64 (q : Nat) ∧ q ≤ kk ∧ w4.grownBy wq (some b) ∧ Mb wq b (60 * k + q) (fun z => fp i ((sp 44 t).take k) z || (vl.take q).any fun x => decide (fx i x = z))) (fun x _ => 200 - (RowKit.intOf x).toNat)
          case atStart => exact ⟨0, rfl, Nat.zero_le _, World.grownBy.refl _ _, H5.out.congr fun z => by simp⟩
          case round =>
            obtain ⟨q, rfl, hq, hgr, hmb⟩ := hrel
            have HR := Lib.hid (And.intro hgr hmb)
            clear hgr hmb
            by_cases hlq : q < kk
            · have hlqI : ((q : Nat) : Int) < ((kk : Nat) : Int) := by omega
              obtain ⟨x, hx⟩ : ∃ x, vl[q]? = some x := by rw [List.getElem?_eq_getElem (by rw [H4.out.2.2.2.1]; exact hlq)]; exact ⟨_, rfl⟩
              have hrow4 := row_kept H4.out.1 HR.out.1 H5.out.at
              obtain ⟨g4, rfl⟩ : ∃ g, a4 = some ⟨g, 0, none⟩ := by
                rcases hrow4.2 with ⟨h1, h9⟩ | ⟨g, cap, cur, h1, _⟩
                · omega
                · cases h1; exact ⟨_, rfl⟩
              have hcell3 : wr.cell? ⟨g4, q, none⟩ = some (.int .i64 (x : Nat)) := row_at hrow4 (by rw [List.getElem?_map, hx]; rfl)
              have hx59 := H4.out.2.2.2.2 x (List.mem_of_getElem? hx)
              obtain ⟨w5, hr5, hm5, hg5⟩ := HR.out.2.put (i := fx i x) (by omega) (by unfold fx; split <;> omega)
              have hbel5 : ∀ z, (fp i ((sp 44 t).take k) z || (vl.take q).any (fun x => decide (fx i x = z)) || decide (z = fx i x)) = (fp i ((sp 44 t).take k) z || (vl.take (q + 1)).any fun x => decide (fx i x = z)) := fun z => by
                rw [List.take_add_one, hx]
                simp only [Option.toList, List.any_append, List.any_cons, List.any_nil, Bool.or_false, Bool.or_assoc]
                rw [decide_eq_decide.2 (eq_comm (a := z) (b := fx i x))]
              have HY := Lib.hid (And.intro (HR.out.1.trans hg5) (hm5.congr hbel5))
              clear hm5 hg5 hbel5 hrow4 hx
              by_cases hi4 : i = 4
              · by_cases hx7 : x = 7
                · have hfx : fx i x = 0 := by unfold fx; rw [if_pos ⟨hi4, hx7⟩]
                  rw [hfx] at hr5
                  have hr6 : (Instr.mapUpdate 69 (.map (some b)) (.int .i64 0) (.bool true)).run Tryz.prog wr = .ok () w5 := hr5
                  have m4 : (((i : Nat) : Int) == 4) = true := by simp; omega
                  have m7 : (((x : Nat) : Int) == 7) = true := by simp; omega
                  clear hfx hi4 hx7 hr5
                  go_wp2_with fail
                  exact ⟨⟨q + 1, by simp, by omega, HY.out.1, HY.out.2⟩, by simp [RowKit.intOf]; omega⟩
                · have hfx : fx i x = x := by unfold fx; rw [if_neg (fun h => hx7 h.2)]
                  rw [hfx] at hr5
                  have m4 : (((i : Nat) : Int) == 4) = true := by simp; omega
                  have m7 : (((x : Nat) : Int) == 7) = false := by simp; omega
                  clear hfx hi4 hx7
                  go_wp2_with fail
                  exact ⟨⟨q + 1, by simp, by omega, HY.out.1, HY.out.2⟩, by simp [RowKit.intOf]; omega⟩
              · have hfx : fx i x = x := by unfold fx; rw [if_neg (fun h => hi4 h.1)]
                rw [hfx] at hr5
                have m4 : (((i : Nat) : Int) == 4) = false := by simp; omega
                clear hfx hi4
                go_wp2_with fail
                exact ⟨⟨q + 1, by simp, by omega, HY.out.1, HY.out.2⟩, by simp [RowKit.intOf]; omega⟩
            · have hqk : q = kk := by omega
              subst hqk
              have htk : (sp 44 t).take (k + 1) = (sp 44 t).take k ++ [p] := by rw [List.take_add_one, HPt.out.2.1]; rfl
              have hvt : vl.take q = vl := by rw [← H4.out.2.2.2.1, List.take_length]
              have hm9 := HR.out.2
              rw [hvt] at hm9
              have hfin : Mb wr b (60 * (k + 1)) (fp i ((sp 44 t).take (k + 1))) := (hm9.mono (by omega)).congr fun z => by rw [htk, fp_next i _ p vl H4.out.2.1 z]
              have HF := Lib.hid (And.intro (HQ.out.1.trans ((grown_of H4.out.2.2.1).trans HR.out.1)) hfin)
              clear hvt hm9 hfin htk hlq
              go_wp2_with fail
              refine ⟨⟨k + 1, by simp, by omega, HF.out.1, HF.out.2, fun j hj p' hp' => ?_⟩, by simp [RowKit.intOf]; omega⟩
              by_cases hjk : j = k
              · subst hjk
                rw [HPt.out.2.1] at hp'
                obtain rfl := Option.some.inj hp'
                exact HPt.out.2.2.2.2
              · exact HPK.out j (by omega) p' hp'
        · have hkn : k = n1 := by omega
          have hm9 := HQ.out.2
          have HOK := Lib.hid (show errF (fds i) (sp 44 t) = 0 from errF_all fun j p hp => HPK.out j (by rw [hkn, HN1.out]; exact (List.getElem?_eq_some_iff.1 hp).1) p hp)
          rw [hkn, HN1.out, List.take_length] at hm9
          have hm10 : Mb wr b 10000 (fp ms.length (sp 44 t)) := by rw [HP.out.2]; exact hm9.mono (by rw [← HN1.out]; omega)
          have hpm9 := H3.out.1.grown HQ.out.1 H3.out.2.1.at H3.out.2.2.2.2 H3.out.2.2.2.1 (by rw [HP.out.2, HE.out.2.2]; omega)
          have hown9 := hpm9.out
          have hlI : ¬ ((k : Nat) : Int) < ((n1 : Nat) : Int) := by omega
          have HM := Lib.hid (And.intro hm10 (And.intro hpm9 (And.intro hpm9.bel.size (show ts[ms.length]? = some t by rw [HP.out.2]; exact HT.out.1))))
          have hml5 : ms.length ≤ 5 := by rw [HP.out.2]; exact hi
          clear hm9 hm10 hpm9 hkn hlt
          go_wp2_with (at_builtin; refine wpList_append_own _ rfl _ _ 48 rfl w.heap.size 69 i0 (.map none) 1 8 Tryz.underlying48 hi0 hz0 hz1 hz2 rfl (by decide) _ _ _ rfl (hown9.alloc _) ⟨wr.heap.size, 0, none⟩ 1 1 [.map (some b)] rfl rfl ?c1 ?c2 ?c3 ?c4 ?c5 ?_)
          case c2 => rfl
          case c3 => have : maxLen = 9223372036854775807 := rfl; omega
          case c4 => omega
          case c5 => have := HM.out.2.2.1; first | omega | (simp; omega)
          intro v' w9 hown' hgrow _
          obtain ⟨a9, c9, rfl⟩ : ∃ ao cp, v' = .slice ao (ms.length + 1) cp := by
            rcases hown'.2 with ⟨rfl, h9⟩ | ⟨g, cap, cur, rfl, _⟩
            · omega
            · exact ⟨_, _, rfl⟩
          have hnew := HM.out.2.1.push hown' hgrow HM.out.1 HM.out.2.2.2 H3.out.2.2.2.2
          have HW := Lib.hid hnew
          clear hown' hgrow hnew hown9
          go_wp2_with fail
          refine ⟨⟨i + 1, ms ++ [b], by simp, by have := HT.out.2.2.2.2; omega, by rw [List.length_append, HP.out.2]; rfl, HW.out, fun j hj t' ht' => ?_⟩, by have := HT.out.2.2.2.2; simp [RowKit.intOf]; omega⟩
          by_cases hji : j = i
          · subst hji
            rw [HT.out.1] at ht'
            obtain rfl := Option.some.inj ht'
            exact HOK.out
          · exact HK.out j (by omega) t' ht'
    · have hi5 : i = 5 := by omega
      exact absurd (by rw [← HE.out.1.1]; exact errs_ok fun j hj t ht => HK.out j (by rw [hi5, ← HE.out.2.2]; exact hj) t ht) HE.out.1.2
set_option maxRecDepth 20000 in
theorem rparse_bad (s : L) (hs : parseE s ≠ 0) (hl : s.length ≤ 1000) (w : World) :
    Calls Tryz.prog 20 #[S s] w fun e w' => e = .returned (.tuple #[.slice none 0 0, .slice none 0 0, .int .i64 (parseE s : Nat)]) ∧ Below w.heap.size w w' := by
  have hz := size_S s
  by_cases h128 : 128 < s.length
  · have e1 : parseE s = 15 := by unfold parseE; rw [if_pos h128]
    have hlI : (128 : Int) < ((s.length : Nat) : Int) := by omega
    rw [e1]
    clear e1 hs
    go_enter Tryz.func20, Tryz.ntmps20
    go_wp2_with fail
    go_ret3
    exact ⟨rfl, Below.refl _ _⟩
  · by_cases h5 : (sp 32 s).length = 5
    · have e1 : parseE s = errs 0 (sp 32 s) := by unfold parseE; rw [if_neg h128, if_pos h5]
      exact rparse_five s (by omega) h5 _ e1.symm hs w
    · have e1 : parseE s = 2 := by unfold parseE; rw [if_neg h128, if_neg h5]
      have hlI : ((s.length : Nat) : Int) ≤ 128 := by omega
      rw [e1]
      have HS := Lib.hid (rsplit_any s (by omega) 32 w)
      obtain ⟨n, hn⟩ : ∃ n, n = (sp 32 s).length := ⟨_, rfl⟩
      rw [← hn] at HS h5
      have h5I : ((((n : Nat) : Int)) != 5) = true := by simp; omega
      have h5J : ¬ ((n : Nat) : Int) = 5 := by omega
      clear e1 hs h128 hn
      go_enter Tryz.func20, Tryz.ntmps20
      go_wp2_with fail
      refine HS.out.mono ?_
      rintro e w1 ⟨⟨v5, rfl, hown⟩, hb1⟩
      obtain ⟨ao, cp, rfl⟩ : ∃ ao cp, v5 = .slice ao n cp := by
        rcases hown.2 with ⟨rfl, h9⟩ | ⟨g, cap, cur, rfl, _⟩
        · exact ⟨_, _, by rw [h9]⟩
        · exact ⟨_, _, rfl⟩
      have HB := Lib.hid hb1
      clear hown hb1
      go_wp2_with fail
      go_ret3
      exact ⟨rfl, HB.out⟩
/-- the document's Parse, of any text: what is wrong, or the maps -/
theorem rparse_err (s : L) (hl : s.length ≤ 1000) (w : World) :
    Calls Tryz.prog 20 #[S s] w fun e w' => (∃ v6 v5, e = .returned (.tuple #[v6, v5, .int .i64 (parseE s : Nat)])) ∧ Below w.heap.size w w' := by
  by_cases hs : parseE s = 0
  · refine (rparse_any s hs w).mono ?_
    rintro e W ⟨v6, g5, c5, ms, rfl, _, hp⟩
    exact ⟨⟨_, _, by rw [hs]; rfl⟩, hp.bel⟩
  · refine (rparse_bad s hs hl w).mono ?_
    rintro e W ⟨rfl, hb⟩
    exact ⟨⟨_, _, rfl⟩, hb⟩
end Go.Proofs.YtkkanggkbbmfnaaGreatDoor.Cn
