
/- expressions: the document's bounds; plain mathematics of CronValues -/
import Derived.Test.YtkkanggkbbmfnaaGreatDoorCnX
namespace Go.Proofs.YtkkanggkbbmfnaaGreatDoor.Cn
open Go.RowKit Go.Lib Go.Proofs.YtkkanggkbbmfnaaGreatDoor.Ht
set_option linter.unusedVariables false

theorem lo_cell {w : World} {b i : Nat} {t : TypeId} (h : w.heap[b]? = some (.cells #[.int .i64 0, .int .i64 0, .int .i64 1, .int .i64 1, .int .i64 0] t (0, 0))) (hi : i < 5) : w.cell? ⟨b, i, none⟩ = some (.int .i64 ((fds i).lo : Nat)) := by
  have : i = 0 ∨ i = 1 ∨ i = 2 ∨ i = 3 ∨ i = 4 := by omega
  rcases this with rfl | rfl | rfl | rfl | rfl <;> simp [World.cell?, h, fds]
theorem hi_cell {w : World} {b i : Nat} {t : TypeId} (h : w.heap[b]? = some (.cells #[.int .i64 59, .int .i64 23, .int .i64 31, .int .i64 12, .int .i64 7] t (0, 0))) (hi : i < 5) : w.cell? ⟨b, i, none⟩ = some (.int .i64 ((fds i).hi : Nat)) := by
  have : i = 0 ∨ i = 1 ∨ i = 2 ∨ i = 3 ∨ i = 4 := by omega
  rcases this with rfl | rfl | rfl | rfl | rfl <;> simp [World.cell?, h, fds]
set_option maxRecDepth 20000 in
set_option maxHeartbeats 4000000 in
theorem bounds_any (i : Nat) (hi : i < 5) (w : World) :
    Calls Tryz.prog 58 #[.int .i64 (i : Nat)] w fun e w' => e = .returned (.tuple #[.int .i64 ((fds i).lo : Nat), .int .i64 ((fds i).hi : Nat)]) ∧ Below w.heap.size w w' := by
  obtain ⟨V, hV⟩ : ∃ V, V = (w.alloc (.cells #[.int .i64 0, .int .i64 0, .int .i64 1, .int .i64 1, .int .i64 0] 3)).alloc (.cells #[.int .i64 59, .int .i64 23, .int .i64 31, .int .i64 12, .int .i64 7] 3) := ⟨_, rfl⟩
  obtain ⟨b1, b2, b3, b4⟩ := two_new w #[.int .i64 0, .int .i64 0, .int .i64 1, .int .i64 1, .int .i64 0] 3 #[.int .i64 59, .int .i64 23, .int .i64 31, .int .i64 12, .int .i64 7] 3
  rw [← hV] at b1 b2 b3 b4
  have HS1 := Lib.hid (show V.drew.heap[w.heap.size]? = some (.cells #[.int .i64 0, .int .i64 0, .int .i64 1, .int .i64 1, .int .i64 0] 3 (0, 0)) ∧ V.drew.heap[w.heap.size + 1]? = some (.cells #[.int .i64 59, .int .i64 23, .int .i64 31, .int .i64 12, .int .i64 7] 3 (0, 0)) from ⟨b2, b3⟩)
  have HV := Lib.hid (And.intro hV b1)
  clear hV b1 b2 b3 b4
  have hiI : ((i : Nat) : Int) < 5 := by omega
  have hmix : Tryz.prog.follows .mixedOrders = true := by kernel_rfl
  go_enter Tryz.func58, Tryz.ntmps58
  go_wp2_with fail
  rw [← HV.out.1]
  refine begin' 10 (fun Y => Y.heap[w.heap.size]? = some (.cells #[.int .i64 0, .int .i64 0, .int .i64 1, .int .i64 1, .int .i64 0] 3 (0, 0)) ∧ Y.heap[w.heap.size + 1]? = some (.cells #[.int .i64 59, .int .i64 23, .int .i64 31, .int .i64 12, .int .i64 7] 3 (0, 0))) hmix HS1.out (fun hS0 => ?_)
  refine Ht.takeN (i := 0) ⟨some 8, _, _, _, _, _⟩ (.slice (some ⟨w.heap.size, 0, none⟩) 5 5) rfl (Nat.le_refl 10) (by kernel_rfl) (by kernel_rfl) (by kernel_rfl) (by kernel_rfl) hS0 (Or.inl ⟨by rfl, by (intro X hX; go_simp)⟩) ?_
  simp only [Act.put, List.setIfInBounds_toArray, List.set_cons_zero, List.set_cons_succ]
  refine Ht.takeN (i := 1) ⟨some 9, _, _, _, _, _⟩ (.int .i64 (i : Nat)) rfl (Nat.le_refl 10) (by kernel_rfl) (by kernel_rfl) (by kernel_rfl) (by kernel_rfl) hS0 (Or.inl ⟨by rfl, by (intro X hX; go_simp)⟩) ?_
  simp only [Act.put, List.setIfInBounds_toArray, List.set_cons_zero, List.set_cons_succ]
  refine Ht.takeN (i := 2) ⟨some 10, _, _, _, _, _⟩ (.pointer (some ⟨w.heap.size, i, none⟩)) rfl (Nat.le_refl 10) (by kernel_rfl) (by kernel_rfl) (by kernel_rfl) (by kernel_rfl) hS0 (Or.inl ⟨by rfl, by (intro X hX; go_simp)⟩) ?_
  simp only [Act.put, List.setIfInBounds_toArray, List.set_cons_zero, List.set_cons_succ]
  refine Ht.takeN (i := 3) ⟨some 11, _, _, _, _, _⟩ (.int .i64 ((fds i).lo : Nat)) rfl (Nat.le_refl 10) (by kernel_rfl) (by kernel_rfl) (by kernel_rfl) (by kernel_rfl) hS0 (Or.inl ⟨by rfl, by (intro X hX; have := lo_cell hX.1 hi; go_simp)⟩) ?_
  simp only [Act.put, List.setIfInBounds_toArray, List.set_cons_zero, List.set_cons_succ]
  refine Ht.takeN (i := 4) ⟨some 12, _, _, _, _, _⟩ (.slice (some ⟨w.heap.size + 1, 0, none⟩) 5 5) rfl (Nat.le_refl 10) (by kernel_rfl) (by kernel_rfl) (by kernel_rfl) (by kernel_rfl) hS0 (Or.inl ⟨by rfl, by (intro X hX; go_simp)⟩) ?_
  simp only [Act.put, List.setIfInBounds_toArray, List.set_cons_zero, List.set_cons_succ]
  refine Ht.takeN (i := 5) ⟨some 13, _, _, _, _, _⟩ (.int .i64 (i : Nat)) rfl (Nat.le_refl 10) (by kernel_rfl) (by kernel_rfl) (by kernel_rfl) (by kernel_rfl) hS0 (Or.inl ⟨by rfl, by (intro X hX; go_simp)⟩) ?_
  simp only [Act.put, List.setIfInBounds_toArray, List.set_cons_zero, List.set_cons_succ]
  refine Ht.takeN (i := 6) ⟨some 14, _, _, _, _, _⟩ (.pointer (some ⟨w.heap.size + 1, i, none⟩)) rfl (Nat.le_refl 10) (by kernel_rfl) (by kernel_rfl) (by kernel_rfl) (by kernel_rfl) hS0 (Or.inl ⟨by rfl, by (intro X hX; go_simp)⟩) ?_
  simp only [Act.put, List.setIfInBounds_toArray, List.set_cons_zero, List.set_cons_succ]
  refine Ht.takeN (i := 7) ⟨some 15, _, _, _, _, _⟩ (.int .i64 ((fds i).hi : Nat)) rfl (Nat.le_refl 10) (by kernel_rfl) (by kernel_rfl) (by kernel_rfl) (by kernel_rfl) hS0 (Or.inl ⟨by rfl, by (intro X hX; have := hi_cell hX.2 hi; go_simp)⟩) ?_
  simp only [Act.put, List.setIfInBounds_toArray, List.set_cons_zero, List.set_cons_succ]
  refine Ht.takeN (i := 8) ⟨some 2, _, _, _, _, _⟩ (.int .i64 ((fds i).lo : Nat)) rfl (Nat.le_refl 10) (by kernel_rfl) (by kernel_rfl) (by kernel_rfl) (by kernel_rfl) hS0 (Or.inl ⟨by rfl, by (intro X hX; go_simp)⟩) ?_
  simp only [Act.put, List.setIfInBounds_toArray, List.set_cons_zero, List.set_cons_succ]
  refine Ht.takeN (i := 9) ⟨some 3, _, _, _, _, _⟩ (.int .i64 ((fds i).hi : Nat)) rfl (Nat.le_refl 10) (by kernel_rfl) (by kernel_rfl) (by kernel_rfl) (by kernel_rfl) hS0 (Or.inl ⟨by rfl, by (intro X hX; go_simp)⟩) ?_
  simp only [Act.put, List.setIfInBounds_toArray, List.set_cons_zero, List.set_cons_succ]
  refine done (by kernel_rfl) ?_
  go_wp2_with fail
  go_ret2
  exact ⟨rfl, HV.out.2.trans (Below.drew (Below.refl _ _))⟩
/-- the fields, one by one -/
def fe (e : Ex) : Nat → Nat
  | 0 => e.a
  | 1 => e.b
  | 2 => e.c
  | 3 => e.d
  | _ => e.e
def star (e : Ex) : Nat → Bool
  | 2 => e.x
  | 4 => e.y
  | i => decide (fe e i = allM i)
theorem fe_lt {e : Ex} (he : ExOk e) : ∀ i, fe e i < 18446744073709551616
  | 0 => he.a
  | 1 => he.b
  | 2 => he.c
  | 3 => he.d
  | _ + 4 => he.e
theorem fe_cell {w : World} {b i : Nat} {t : TypeId} {e : Ex} (h : w.heap[b]? = some (.cells #[u e.a, u e.b, u e.c, u e.d, u e.e] t (0, 0))) (hi : i < 5) : w.cell? ⟨b, i, none⟩ = some (u (fe e i)) := by
  have : i = 0 ∨ i = 1 ∨ i = 2 ∨ i = 3 ∨ i = 4 := by omega
  rcases this with rfl | rfl | rfl | rfl | rfl <;> simp [World.cell?, h, fe]
/-- the first m fields' texts -/
def ft (e : Ex) (m : Nat) : List L := (List.range m).map fun i => textT (fe e i) (star e i)
theorem ft_five (e : Ex) : join (ft e 5) [32] = exT e := rfl
/-- with a blank behind, but at the beginning -/
def ahead (e : Ex) (m : Nat) : L := if m = 0 then [] else join (ft e m) [32] ++ [32]
theorem join_snoc (ps : List L) (p : L) (h : ps ≠ []) : join (ps ++ [p]) [32] = join ps [32] ++ [32] ++ p := by
  cases ps with
  | nil => exact absurd rfl h
  | cons q ps =>
    rw [List.cons_append, join_cons, join_cons]
    unfold joinTail
    simp
theorem ft_next (e : Ex) (m : Nat) : join (ft e (m + 1)) [32] = ahead e m ++ textT (fe e m) (star e m) := by
  unfold ahead
  have h : ft e (m + 1) = ft e m ++ [textT (fe e m) (star e m)] := by unfold ft; rw [List.range_succ, List.map_append]; rfl
  rw [h]
  by_cases hm : m = 0
  · subst hm; rw [if_pos rfl]; show join [_] [32] = _; rw [join_one]; rfl
  · rw [if_neg hm]
    exact join_snoc _ _ (fun h0 => by have := congrArg List.length h0; simp [ft] at this; omega)
theorem ahead_len (e : Ex) : ∀ m, (ahead e m).length ≤ 201 * m ∧ (join (ft e m) [32]).length ≤ 201 * m
  | 0 => ⟨Nat.le_refl 0, Nat.le_refl 0⟩
  | m + 1 => by
    obtain ⟨h1, h2⟩ := ahead_len e m
    have h3 := textT_len (fe e m) (star e m)
    have h4 : (join (ft e (m + 1)) [32]).length ≤ 201 * m + 200 := by rw [ft_next, List.length_append]; omega
    refine ⟨?_, by omega⟩
    unfold ahead
    rw [if_neg (by omega), List.length_append, List.length_singleton]
    omega
/-- are the bits below k just those from lo to hi? -/
def inR (lo hi k : Nat) : Bool := decide (lo ≤ k) && decide (k ≤ hi)
def allP (n lo hi : Nat) : Nat → Bool
  | 0 => true
  | k + 1 => allP n lo hi k && (n.testBit k == inR lo hi k)
theorem allP_iff (n lo hi : Nat) : ∀ k, allP n lo hi k = true ↔ ∀ j, j < k → n.testBit j = inR lo hi j
  | 0 => by simp [allP]
  | k + 1 => by
    unfold allP
    rw [Bool.and_eq_true, allP_iff n lo hi k, beq_iff_eq]
    constructor
    · rintro ⟨h1, h2⟩ j hj
      by_cases h : j = k
      · subst h; exact h2
      · exact h1 j (by omega)
    · intro h
      exact ⟨fun j hj => h j (by omega), h k (by omega)⟩
theorem allP_all {n i : Nat} (hn : n < 18446744073709551616) : allP n (fds i).lo (fds i).hi 64 = decide (n = allM i) := by
  have hh := (fds_ok i).hi
  rw [Bool.eq_iff_iff, allP_iff, decide_eq_true_eq]
  have e1 : ∀ x, inP ((fds i).lo, (fds i).hi, 1) x = inR (fds i).lo (fds i).hi x := fun x => by unfold inP inR; simp [Nat.mod_one]
  constructor
  · intro h
    exact mk_eq hn fun x hx => (h x hx).trans (e1 x).symm
  · rintro rfl j hj
    unfold allM
    rw [mk_bit, e1]; simp [hj]
/-- the values below k, written out -/
def some3 (n k : Nat) : Bool := !(bel n k).isEmpty
def list3 (n k : Nat) : L := join ((bel n k).map decDigits) [44]
theorem list3_len (n k : Nat) (hk : k ≤ 64) : (list3 n k).length ≤ 200 := by
  have h1 := bel_len n k
  have h2 := lens_le (bel n k) fun j hj => by have := (mem_bel.1 hj).1; omega
  unfold list3
  cases hb : bel n k with
  | nil => simp [join_nil]
  | cons j l =>
    rw [hb] at h1 h2
    rw [List.map_cons, join_length]
    simp only [List.map_cons, List.length_cons, List.length_map, List.length_nil] at h1 h2 ⊢
    omega
theorem list3_zero (n : Nat) : list3 n 0 = [] ∧ some3 n 0 = false := ⟨rfl, rfl⟩
theorem list3_skip {n k : Nat} (h : n.testBit k = false) : list3 n (k + 1) = list3 n k ∧ some3 n (k + 1) = some3 n k := by
  unfold list3 some3; rw [bel_succ, h]; simp
theorem list3_next {n k : Nat} (h : n.testBit k = true) : list3 n (k + 1) = list3 n k ++ ((if some3 n k = true then [44] else []) ++ decDigits k) ∧ some3 n (k + 1) = true := by
  unfold list3 some3
  rw [bel_succ, h, if_pos rfl]
  refine ⟨?_, by simp⟩
  cases hb : bel n k with
  | nil => simp [join_nil, join_one]
  | cons j l =>
    rw [List.map_append, List.map_cons, List.cons_append, join_cons, join_cons]
    unfold joinTail
    simp
theorem list3_end {n : Nat} (hn : n < 18446744073709551616) : listT n = list3 n 64 ++ (if some3 n 64 = true then [] else [45]) := by
  unfold listT list3 some3
  by_cases h0 : n = 0
  · subst h0
    have : bel 0 64 = [] := by decide
    rw [if_pos rfl, this]; rfl
  · rw [if_neg h0]
    cases hb : bel n 64 with
    | nil =>
      exfalso
      refine h0 ?_
      rw [nat_mk hn]
      refine mk_none fun x => ?_
      by_cases hx : x < 64
      · cases e : n.testBit x with
        | false => rfl
        | true => have := mem_bel.2 ⟨hx, e⟩; rw [hb] at this; cases this
      · exact Nat.testBit_lt_two_pow (Nat.lt_of_lt_of_le hn (show 2 ^ 64 ≤ 2 ^ x from Nat.pow_le_pow_right (by decide) (by omega)))
    | cons j l => rw [show bitsL n = j :: l from hb]; simp
end Go.Proofs.YtkkanggkbbmfnaaGreatDoor.Cn
