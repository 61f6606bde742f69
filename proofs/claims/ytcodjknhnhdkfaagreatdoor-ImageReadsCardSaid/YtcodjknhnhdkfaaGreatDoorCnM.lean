
/- plain mathematics of expressions: texts that are cut, numbers, parts, fields -/
import Derived.Test.YtcodjknhnhdkfaaGreatDoorRows
import Derived.Lib.SplitLaws
import Derived.Lib.Join
namespace Go.Proofs.YtcodjknhnhdkfaaGreatDoor.Cn
open Go.Lib
set_option linter.unusedVariables false

abbrev L := List UInt8
/-- a text, cut at each of a byte -/
def sp (c : UInt8) : L → List L
  | [] => [[]]
  | b :: l => if b = c then [] :: sp c l else match sp c l with
    | [] => [[b]]
    | h :: t => (b :: h) :: t
theorem sp_ne (c : UInt8) (l : L) : sp c l ≠ [] := by
  cases l with
  | nil => simp [sp]
  | cons b l => unfold sp; split; · simp
                split <;> simp
theorem sp_hit (c : UInt8) (l : L) : sp c (c :: l) = [] :: sp c l := by rw [sp, if_pos rfl]
theorem sp_skip {c b : UInt8} (l h : L) (t : List L) (hb : b ≠ c) (hs : sp c l = h :: t) : sp c (b :: l) = (b :: h) :: t := by rw [sp, if_neg hb, hs]
theorem sp_cons (c : UInt8) (l : L) : ∃ h t, sp c l = h :: t := by
  cases e : sp c l with
  | nil => exact absurd e (sp_ne c l)
  | cons h t => exact ⟨h, t, rfl⟩
theorem sp_app (c : UInt8) (b : L) : ∀ a : L, sp c (a ++ c :: b) = sp c a ++ sp c b
  | [] => by rw [List.nil_append, sp_hit]; rfl
  | x :: a => by
    have ih := sp_app c b a
    by_cases hx : x = c
    · subst hx; rw [List.cons_append, sp_hit, sp_hit, ih]; rfl
    · obtain ⟨h, t, e⟩ := sp_cons c a
      rw [e, List.cons_append] at ih
      rw [List.cons_append, sp_skip _ _ _ hx ih, sp_skip _ _ _ hx e]; rfl
theorem sp_free {c : UInt8} : ∀ {a : L}, c ∉ a → sp c a = [a]
  | [], _ => rfl
  | x :: a, h => by
    rw [List.mem_cons, not_or] at h
    exact sp_skip _ _ _ (fun e => h.1 e.symm) (sp_free h.2)
theorem sp_snoc (c b : UInt8) (l : L) : ∃ d h, sp c l = d ++ [h] ∧ sp c (l ++ [b]) = if b = c then d ++ [h] ++ [[]] else d ++ [h ++ [b]] := by
  induction l with
  | nil =>
    refine ⟨[], [], rfl, ?_⟩
    by_cases hb : b = c
    · subst hb; rw [if_pos rfl]; exact sp_hit _ []
    · rw [if_neg hb]; exact sp_skip _ _ _ hb rfl
  | cons x l ih =>
    obtain ⟨d, h, e1, e2⟩ := ih
    by_cases hx : x = c
    · subst hx
      refine ⟨[] :: d, h, by rw [sp_hit, e1]; rfl, ?_⟩
      rw [List.cons_append, sp_hit, e2]
      split <;> rfl
    · cases d with
      | nil =>
        refine ⟨[], x :: h, sp_skip _ _ _ hx e1, ?_⟩
        by_cases hb : b = c
        · rw [if_pos hb] at e2 ⊢; exact sp_skip _ _ _ hx e2
        · rw [if_neg hb] at e2 ⊢; exact sp_skip _ _ _ hx e2
      | cons d0 d =>
        refine ⟨(x :: d0) :: d, h, sp_skip _ _ _ hx e1, ?_⟩
        by_cases hb : b = c
        · rw [if_pos hb] at e2 ⊢; exact sp_skip _ _ _ hx e2
        · rw [if_neg hb] at e2 ⊢; exact sp_skip _ _ _ hx e2
/-- where a byte is first -/
def fi (c : UInt8) : L → Option Nat
  | [] => none
  | b :: l => if b = c then some 0 else (fi c l).map (· + 1)
theorem fi_none {c : UInt8} : ∀ {l : L}, fi c l = none ↔ c ∉ l
  | [] => by simp [fi]
  | b :: l => by
    unfold fi
    by_cases hb : b = c
    · subst hb; simp
    · rw [if_neg hb, Option.map_eq_none_iff, fi_none, List.mem_cons, not_or]
      exact ⟨fun h => ⟨fun e => hb e.symm, h⟩, fun h => h.2⟩
theorem fi_some {c : UInt8} : ∀ {l : L} {i : Nat}, fi c l = some i → i < l.length ∧ l = l.take i ++ c :: l.drop (i + 1) ∧ c ∉ l.take i
  | [], i, h => by simp [fi] at h
  | b :: l, i, h => by
    unfold fi at h
    by_cases hb : b = c
    · subst hb
      rw [if_pos rfl] at h
      obtain rfl := Option.some.inj h
      simp
    · rw [if_neg hb, Option.map_eq_some_iff] at h
      obtain ⟨j, hj, rfl⟩ := h
      obtain ⟨h1, h2, h3⟩ := fi_some hj
      refine ⟨by simpa using h1, ?_, ?_⟩
      · rw [List.take_succ_cons, List.drop_succ_cons, List.cons_append, ← h2]
      · rw [List.take_succ_cons, List.mem_cons, not_or]
        exact ⟨fun e => hb e.symm, h3⟩
/-- as an integer -/
def fiI (c : UInt8) (l : L) : Int := match fi c l with | some i => (i : Nat) | none => -1
theorem index_fi (c : UInt8) : ∀ l : L, index l [c] = fiI c l
  | [] => rfl
  | b :: l => by
    have ih := index_fi c l
    unfold index fiI fi
    by_cases hb : b = c
    · subst hb; simp
    · have h0 : ([c] : L).isPrefixOf (b :: l) = false := by simp [List.isPrefixOf]; exact fun e => hb e.symm
      rw [h0, if_neg hb, ih]
      unfold fiI
      cases fi c l with
      | none => simp
      | some i => simp
theorem sp_miss {c : UInt8} {l : L} (h : fi c l = none) : sp c l = [l] := sp_free (fi_none.1 h)
theorem sp_at {c : UInt8} {l : L} {i : Nat} (h : fi c l = some i) : sp c l = l.take i :: sp c (l.drop (i + 1)) := by
  obtain ⟨_, h2, h3⟩ := fi_some h
  have h4 := sp_app c (l.drop (i + 1)) (l.take i)
  rw [← h2, sp_free h3] at h4
  exact h4
theorem sp_length (c : UInt8) (l : L) : (sp c l).length = l.count c + 1 := by
  induction l with
  | nil => rfl
  | cons b l ih =>
    by_cases hb : b = c
    · subst hb; rw [sp_hit, List.length_cons, ih, List.count_cons_self]
    · obtain ⟨h, t, e⟩ := sp_cons c l
      rw [sp_skip _ _ _ hb e, List.count_cons_of_ne hb, ← ih, e]; rfl
theorem sp_joined (c : UInt8) (l : L) : l = join (sp c l) [c] := by
  induction l with
  | nil => rfl
  | cons b l ih =>
    obtain ⟨h, t, e⟩ := sp_cons c l
    rw [e, join_cons] at ih
    by_cases hb : b = c
    · subst hb
      rw [sp_hit, e, join_cons]
      unfold joinTail at ih ⊢
      rw [List.map_cons, List.flatten_cons]
      simpa using ih
    · rw [sp_skip _ _ _ hb e, join_cons, List.cons_append, ← ih]
/-- pieces are no longer than the text -/
theorem sp_mem_len {c : UInt8} : ∀ {l p : L}, p ∈ sp c l → p.length ≤ l.length ∧ c ∉ p
  | [], p, h => by
    have : p = [] := by simpa [sp] using h
    subst this; simp
  | b :: l, p, h => by
    obtain ⟨hd, t, e⟩ := sp_cons c l
    by_cases hb : b = c
    · subst hb
      rw [sp_hit] at h
      rcases List.mem_cons.1 h with rfl | h
      · simp
      · obtain ⟨h1, h2⟩ := sp_mem_len h
        exact ⟨by rw [List.length_cons]; omega, h2⟩
    · rw [sp_skip _ _ _ hb e] at h
      rcases List.mem_cons.1 h with rfl | h
      · obtain ⟨h1, h2⟩ := sp_mem_len (c := c) (l := l) (p := hd) (by rw [e]; exact List.mem_cons_self)
        refine ⟨by rw [List.length_cons, List.length_cons]; omega, ?_⟩
        rw [List.mem_cons, not_or]
        exact ⟨fun x => hb x.symm, h2⟩
      · obtain ⟨h1, h2⟩ := sp_mem_len (c := c) (l := l) (p := p) (by rw [e]; exact List.mem_cons_of_mem _ h)
        exact ⟨by rw [List.length_cons]; omega, h2⟩
theorem splitK_sp (c : UInt8) : ∀ (k : Nat) (l : L), l.count c = k → splitK [c] 0 k l = sp c l
  | 0, l, h => by
    rw [splitK]
    exact (sp_free (fun hm => by have := List.count_pos_iff.2 hm; omega)).symm
  | k + 1, l, h => by
    rw [splitK, index_fi]
    have hm : c ∈ l := List.count_pos_iff.1 (by omega)
    cases e : fi c l with
    | none => exact absurd hm (fi_none.1 e)
    | some i =>
      obtain ⟨_, h2, h3⟩ := fi_some e
      have hc : (l.drop (i + 1)).count c = k := by
        have h4 : l.count c = (l.take i).count c + ((l.drop (i + 1)).count c + 1) := by
          conv => lhs; rw [h2]
          rw [List.count_append, List.count_cons_self]
        have h5 : (l.take i).count c = 0 := List.count_eq_zero.2 h3
        omega
      have hi : fiI c l = (i : Nat) := by unfold fiI; rw [e]
      rw [hi, if_neg (by simp)]
      rw [sp_at e, show ((i : Nat) : Int).toNat = i by omega, List.length_singleton, splitK_sp c k _ hc]
      rfl
theorem split_sp (c : UInt8) (l : L) : split l [c] = sp c l := by
  unfold split; rw [count_one]; exact splitK_sp c _ l rfl
/-- a text, cut at the first of a byte -/
def ct (c : UInt8) (l : L) : L × L × Bool := match fi c l with
  | some i => (l.take i, l.drop (i + 1), true)
  | none => (l, [], false)
theorem cut_ct (c : UInt8) (l : L) : cut l [c] = ct c l := by
  unfold cut ct
  rw [index_fi]
  unfold fiI
  cases fi c l with
  | none => simp
  | some i => simp

/-- digits -/
def isD (b : UInt8) : Bool := decide (48 ≤ b.toNat) && decide (b.toNat ≤ 57)
def dgT : L → Nat × Bool
  | [a] => if isD a then (a.toNat - 48, true) else (0, false)
  | [a, b] => if isD a && isD b then (10 * (a.toNat - 48) + (b.toNat - 48), true) else (0, false)
  | _ => (0, false)
/-- a field: its bounds, its names -/
structure Fd where
  lo : Nat
  hi : Nat
  nm : L
def fds : Nat → Fd
  | 0 => ⟨0, 59, []⟩
  | 1 => ⟨0, 23, []⟩
  | 2 => ⟨1, 31, []⟩
  | 3 => ⟨1, 12, [106, 97, 110, 102, 101, 98, 109, 97, 114, 97, 112, 114, 109, 97, 121, 106, 117, 110, 106, 117, 108, 97, 117, 103, 115, 101, 112, 111, 99, 116, 110, 111, 118, 100, 101, 99]⟩
  | _ => ⟨0, 7, [115, 117, 110, 109, 111, 110, 116, 117, 101, 119, 101, 100, 116, 104, 117, 102, 114, 105, 115, 97, 116]⟩
def nmI (s : L) : L → Option Nat
  | a :: b :: c :: r => if [a, b, c] = s then some 0 else (nmI s r).map (· + 1)
  | _ => none
def numT (f : Fd) (s : L) : Nat × Bool := match nmI s f.nm with
  | some k => (f.lo + k, true)
  | none => dgT s
/-- a part: the first, the last, the step -/
abbrev Pt := Nat × Nat × Nat
def spanT (f : Fd) (s : L) : Pt × Bool :=
  if s = [42] then ((f.lo, f.hi, 1), true)
  else (((numT f (ct 45 s).1).1, (numT f (ct 45 s).2.1).1, 1), (numT f (ct 45 s).1).2 && (numT f (ct 45 s).2.1).2)
def readT (f : Fd) (s : L) : Pt × Bool :=
  if (numT f s).2 then (((numT f s).1, (numT f s).1, 1), true)
  else if (spanT f (ct 47 s).1).2 && (ct 47 s).2.2 then (((spanT f (ct 47 s).1).1.1, (spanT f (ct 47 s).1).1.2.1, (dgT (ct 47 s).2.1).1), (dgT (ct 47 s).2.1).2)
  else spanT f (ct 47 s).1
def mayB (f : Fd) (p : Pt) : Bool := decide (f.lo ≤ p.1) && decide (p.1 ≤ p.2.1) && decide (p.2.1 ≤ f.hi) && decide (1 ≤ p.2.2) && decide (p.2.2 ≤ 60)
def inP (p : Pt) (x : Nat) : Bool := decide (p.1 ≤ x) && decide (x ≤ p.2.1) && decide ((x - p.1) % p.2.2 = 0)

/-- bits -/
def mkN (p : Nat → Bool) : Nat → Nat
  | 0 => 0
  | n + 1 => mkN p n + (if p n then 2 ^ n else 0)
theorem mkN_lt (p : Nat → Bool) : ∀ n, mkN p n < 2 ^ n
  | 0 => Nat.one_pos
  | n + 1 => by
    have := mkN_lt p n
    unfold mkN
    rw [Nat.pow_succ]
    split <;> omega
theorem mkN_bit (p : Nat → Bool) (x : Nat) : ∀ n, (mkN p n).testBit x = (decide (x < n) && p x)
  | 0 => by simp [mkN]
  | n + 1 => by
    have ih := mkN_bit p x n
    have hl := mkN_lt p n
    unfold mkN
    by_cases hp : p n = true
    · rw [if_pos hp, Nat.add_comm]
      by_cases hx : x = n
      · subst hx
        rw [Nat.testBit_two_pow_add_eq, Nat.testBit_lt_two_pow hl, hp]; simp
      · by_cases hlt : x < n
        · rw [Nat.testBit_two_pow_add_gt hlt, ih]
          simp [hlt]; omega
        · rw [Nat.testBit_lt_two_pow]
          · have : ¬ x < n + 1 := by omega
            simp [this]
          · calc 2 ^ n + mkN p n < 2 ^ n + 2 ^ n := by omega
              _ = 2 ^ (n + 1) := by rw [Nat.pow_succ]; omega
              _ ≤ 2 ^ x := Nat.pow_le_pow_right (by decide) (by omega)
    · rw [if_neg hp, Nat.add_zero, ih]
      by_cases hx : x = n
      · subst hx
        rw [Bool.not_eq_true] at hp
        rw [hp]; simp
      · have : (x < n) ↔ (x < n + 1) := by omega
        simp [this]
abbrev mk (p : Nat → Bool) : Nat := mkN p 64
theorem mk_bit (p : Nat → Bool) (x : Nat) : (mk p).testBit x = (decide (x < 64) && p x) := mkN_bit p x 64
theorem mk_lt (p : Nat → Bool) : mk p < 18446744073709551616 := mkN_lt p 64
theorem mk_eq {p : Nat → Bool} {n : Nat} (hn : n < 18446744073709551616) (h : ∀ x, x < 64 → n.testBit x = p x) : n = mk p := by
  refine Nat.eq_of_testBit_eq fun x => ?_
  rw [mk_bit]
  by_cases hx : x < 64
  · rw [h x hx]; simp [hx]
  · rw [Nat.testBit_lt_two_pow (Nat.lt_of_lt_of_le hn (show 2 ^ 64 ≤ 2 ^ x from Nat.pow_le_pow_right (by decide) (by omega)))]; simp [hx]
theorem mk_congr {p q : Nat → Bool} (h : ∀ x, x < 64 → p x = q x) : mk p = mk q := mk_eq (mk_lt p) fun x hx => by rw [mk_bit, h x hx]; simp [hx]

/-- a part's error, and a field's, and its values -/
def errP (f : Fd) (s : L) : Nat := if (readT f s).2 then (if mayB f (readT f s).1 then 0 else 3) else 2
def errF (f : Fd) : List L → Nat
  | [] => 0
  | p :: ps => if errP f p = 0 then errF f ps else errP f p
def setF (f : Fd) (ps : List L) (x : Nat) : Bool := ps.any fun p => inP (readT f p).1 x
/-- fields from the i-th one on: the first error -/
def errs : Nat → List L → Nat
  | _, [] => 0
  | i, t :: ts => if errF (fds i) (sp 44 t) = 0 then errs (i + 1) ts else errF (fds i) (sp 44 t)
/-- weekdays with one number for Sunday -/
def fold (p : Nat → Bool) (x : Nat) : Bool := (p x && !decide (x = 7)) || (decide (x = 0) && p 7)
/-- an expression -/
structure Ex where
  a : Nat
  b : Nat
  c : Nat
  d : Nat
  e : Nat
  x : Bool
  y : Bool
def Ex.zero : Ex := ⟨0, 0, 0, 0, 0, false, false⟩
/-- the i-th field's values -/
def fv (i : Nat) (t : L) : Nat := mk (setF (fds i) (sp 44 t))
def exOf (ts : List L) : Ex := ⟨fv 0 (ts.getD 0 []), fv 1 (ts.getD 1 []), fv 2 (ts.getD 2 []), fv 3 (ts.getD 3 []), mk (fold (setF (fds 4) (sp 44 (ts.getD 4 [])))), decide (ts.getD 2 [] = [42]), decide (ts.getD 4 [] = [42])⟩
def parseE (s : L) : Nat := if 128 < s.length then 15 else if (sp 32 s).length = 5 then errs 0 (sp 32 s) else 2
def parseV (s : L) : Ex := if parseE s = 0 then exOf (sp 32 s) else Ex.zero
end Go.Proofs.YtcodjknhnhdkfaaGreatDoor.Cn
