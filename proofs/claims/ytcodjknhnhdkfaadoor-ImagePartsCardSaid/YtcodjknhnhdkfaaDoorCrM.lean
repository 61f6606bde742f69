
/- the sums of bytes: the plain mathematics -/
import Derived.Laws.BitsAllLaws
namespace Go.Proofs.YtcodjknhnhdkfaaDoor.Cr

/-- one bit goes by -/
def st (s : Nat) : Nat := s / 2 ^^^ (if s % 2 = 1 then 3988292384 else 0)
/-- so many bits go by -/
def it : Nat → Nat → Nat
  | 0, s => s
  | n + 1, s => st (it n s)
/-- a sum: a number of 32 bits -/
def U32 (n : Nat) : Prop := n < 4294967296

theorem U32.xor {a b : Nat} (ha : U32 a) (hb : U32 b) : U32 (a ^^^ b) := Nat.xor_lt_two_pow (n := 32) ha hb
theorem U32.div {a : Nat} (ha : U32 a) (k : Nat) : U32 (a / k) := Nat.lt_of_le_of_lt (Nat.div_le_self _ _) ha
theorem U32.zero : U32 0 := by unfold U32; decide
theorem U32.byte (c : UInt8) : U32 c.toNat := by have := c.toNat_lt; unfold U32; omega
theorem U32.st {s : Nat} (h : U32 s) : U32 (st s) := by
  unfold Cr.st
  refine U32.xor (h.div 2) ?_
  split
  · unfold U32; decide
  · exact U32.zero
theorem U32.it {s : Nat} (h : U32 s) (n : Nat) : U32 (it n s) := by
  induction n with
  | zero => exact h
  | succ n ih => exact ih.st

theorem xor4 (a b c d : Nat) : (a ^^^ b) ^^^ (c ^^^ d) = (a ^^^ c) ^^^ (b ^^^ d) := by
  rw [Nat.xor_assoc, Nat.xor_assoc, ← Nat.xor_assoc b c d, Nat.xor_comm b c, Nat.xor_assoc c b d]
theorem st_xor (a b : Nat) : st (a ^^^ b) = st a ^^^ st b := by
  unfold st
  rw [Nat.xor_div_two, xor4]
  congr 1
  have h := @Nat.xor_mod_two_eq_one a b
  by_cases ha : a % 2 = 1 <;> by_cases hb : b % 2 = 1 <;> simp [h, ha, hb]
theorem it_xor (n a b : Nat) : it n (a ^^^ b) = it n a ^^^ it n b := by
  induction n with
  | zero => rfl
  | succ n ih => show st (it n (a ^^^ b)) = _; rw [ih, st_xor]; rfl
theorem st_zero : st 0 = 0 := rfl
theorem it_zero (n : Nat) : it n 0 = 0 := by
  induction n with
  | zero => rfl
  | succ n ih => show st (it n 0) = 0; rw [ih]; rfl
theorem it_add (m n s : Nat) : it (m + n) s = it n (it m s) := by
  induction n with
  | zero => rfl
  | succ n ih => show st (it (m + n) s) = st (it n (it m s)); rw [ih]

theorem xor_zero_eq {a b : Nat} (h : a ^^^ b = 0) : a = b := by
  have h1 : (a ^^^ b) ^^^ b = a := by rw [Nat.xor_assoc, Nat.xor_self, Nat.xor_zero]
  rw [h, Nat.zero_xor] at h1
  exact h1.symm
theorem st_null {s : Nat} (h : U32 s) (h0 : st s = 0) : s = 0 := by
  unfold st at h0
  have h1 := xor_zero_eq h0
  unfold U32 at h
  split at h1 <;> omega
theorem it_null {s : Nat} (h : U32 s) : ∀ n, it n s = 0 → s = 0
  | 0, h0 => h0
  | n + 1, h0 => it_null h n (st_null (h.it n) h0)
theorem it_inj {s t : Nat} (hs : U32 s) (ht : U32 t) (n : Nat) (h : it n s = it n t) : s = t := by
  refine xor_zero_eq (it_null (hs.xor ht) n ?_)
  rw [it_xor, h, Nat.xor_self]

/-! ### the table -/
/-- what four bits leave behind -/
def nib (r : Nat) : Nat := [0, 498536548, 997073096, 651767980, 1994146192, 1802195444, 1303535960, 1342533948, 3988292384, 4027552580, 3604390888, 3412177804, 2607071920, 2262029012, 2685067896, 3183342108].getD r 0
theorem nib_it : ∀ r, r < 16 → it 4 r = nib r := by decide
theorem nib_u32 (r : Nat) : U32 (nib r) := by
  by_cases h : r < 16
  · rw [← nib_it r h]; exact U32.it (by unfold U32; omega) 4
  · have : nib r = 0 := by unfold nib; rw [List.getD_eq_getElem?_getD, List.getElem?_eq_none (by simp; omega)]; rfl
    rw [this]; exact U32.zero
theorem st_even (q : Nat) : st (2 * q) = q := by
  unfold st
  rw [if_neg (by omega), Nat.xor_zero]; omega
theorem low_xor (s k : Nat) : s = 2 ^ k * (s / 2 ^ k) ^^^ s % 2 ^ k := by
  apply Nat.eq_of_testBit_eq
  intro i
  rw [Nat.testBit_xor, Nat.testBit_two_pow_mul, Nat.testBit_div_two_pow, Nat.testBit_mod_two_pow]
  by_cases h : i < k
  · simp [h, Nat.not_le.mpr h]
  · have h2 : k ≤ i := by omega
    simp [h, h2]
theorem four (s : Nat) : it 4 s = s / 16 ^^^ nib (s % 16) := by
  have e := low_xor s 4
  have h16 : it 4 (2 ^ 4 * (s / 2 ^ 4)) = s / 16 := by
    show st (st (st (st (2 ^ 4 * (s / 2 ^ 4))))) = _
    rw [show 2 ^ 4 * (s / 2 ^ 4) = 2 * (2 * (2 * (2 * (s / 16)))) by omega, st_even, st_even, st_even, st_even]
  have hl : it 4 (s % 2 ^ 4) = nib (s % 16) := nib_it (s % 16) (by omega)
  calc it 4 s = it 4 (2 ^ 4 * (s / 2 ^ 4) ^^^ s % 2 ^ 4) := by rw [← e]
    _ = _ := by rw [it_xor, h16, hl]

/-- a byte goes by -/
def upd (s : Nat) (c : UInt8) : Nat := it 8 (s ^^^ c.toNat)
theorem upd_u32 {s : Nat} (h : U32 s) (c : UInt8) : U32 (upd s c) := (h.xor (U32.byte c)).it 8
theorem upd_four (s : Nat) (c : UInt8) : upd s c = it 4 (it 4 (s ^^^ c.toNat)) := it_add 4 4 _
/-- bytes go by -/
def run (s : Nat) (l : List UInt8) : Nat := l.foldl upd s
theorem run_u32 {s : Nat} (h : U32 s) (l : List UInt8) : U32 (run s l) := by
  induction l generalizing s with
  | nil => exact h
  | cons c l ih => exact ih (upd_u32 h c)
theorem run_snoc (s : Nat) (l : List UInt8) (c : UInt8) : run s (l ++ [c]) = upd (run s l) c := by simp [run]
theorem run_append (s : Nat) (a b : List UInt8) : run s (a ++ b) = run (run s a) b := by simp [run]
/-- all bits are turned -/
def tn (s : Nat) : Nat := 4294967295 - s
theorem tn_u32 (s : Nat) : U32 (tn s) := by unfold tn U32; omega
theorem tn_tn {s : Nat} (h : U32 s) : tn (tn s) = s := by unfold tn U32 at *; omega
theorem tn_xor {s : Nat} (h : U32 s) : tn s = 4294967295 ^^^ s := by
  have h1 : (BitVec.allOnes 32 ^^^ BitVec.ofNat 32 s).toNat = (~~~ BitVec.ofNat 32 s).toNat := by rw [BitVec.allOnes_xor]
  rw [BitVec.toNat_xor, BitVec.toNat_not, BitVec.toNat_allOnes, BitVec.toNat_ofNat, Nat.mod_eq_of_lt (show s < 2 ^ 32 from h)] at h1
  exact h1.symm
/-- the sum of bytes, and with more behind -/
def more (s : Nat) (l : List UInt8) : Nat := tn (run (tn s) l)
def sum (l : List UInt8) : Nat := tn (run 4294967295 l)
theorem more_u32 (s : Nat) (l : List UInt8) : U32 (more s l) := tn_u32 _
theorem sum_u32 (l : List UInt8) : U32 (sum l) := tn_u32 _
theorem more_zero (l : List UInt8) : more 0 l = sum l := rfl
theorem more_sum (a b : List UInt8) : more (sum a) b = sum (a ++ b) := by
  unfold more sum
  rw [tn_tn (run_u32 (by unfold U32; decide) a), run_append]

/-! ### bit by bit -/
def go (s : Nat) (B : Nat → Bool) : Nat → Nat
  | 0 => s
  | n + 1 => st (go s B n ^^^ (B n).toNat)
theorem go_u32 {s : Nat} (h : U32 s) (B : Nat → Bool) (n : Nat) : U32 (go s B n) := by
  induction n with
  | zero => exact h
  | succ n ih => exact (ih.xor (by cases B n <;> (unfold U32; decide))).st
theorem go_congr {s : Nat} {B C : Nat → Bool} (n : Nat) (h : ∀ i, i < n → B i = C i) : go s B n = go s C n := by
  induction n with
  | zero => rfl
  | succ n ih => show st (go s B n ^^^ _) = st (go s C n ^^^ _); rw [ih (fun i hi => h i (by omega)), h n (by omega)]
theorem go_add (s : Nat) (B : Nat → Bool) (m n : Nat) : go s B (m + n) = go (go s B m) (fun i => B (m + i)) n := by
  induction n with
  | zero => rfl
  | succ n ih => show st (go s B (m + n) ^^^ (B (m + n)).toNat) = st (go (go s B m) (fun i => B (m + i)) n ^^^ (B (m + n)).toNat); rw [ih]
theorem go_xor (s t : Nat) (B C : Nat → Bool) (n : Nat) : go (s ^^^ t) (fun i => B i ^^ C i) n = go s B n ^^^ go t C n := by
  induction n with
  | zero => rfl
  | succ n ih =>
    show st (go (s ^^^ t) (fun i => B i ^^ C i) n ^^^ (B n ^^ C n).toNat) = st (go s B n ^^^ (B n).toNat) ^^^ st (go t C n ^^^ (C n).toNat)
    rw [ih, ← st_xor, xor4]
    congr 2
    cases B n <;> cases C n <;> rfl
theorem go_none (s n : Nat) : go s (fun _ => false) n = it n s := by
  induction n with
  | zero => rfl
  | succ n ih => show st (go s (fun _ => false) n ^^^ 0) = _; rw [ih, Nat.xor_zero]; rfl
/-- bits that are handed in together -/
theorem go_at (s x : Nat) (k : Nat) : go s (fun i => x.testBit i) k ^^^ x / 2 ^ k = it k (s ^^^ x) := by
  induction k with
  | zero => simp [go, it]
  | succ k ih =>
    show st (go s (fun i => x.testBit i) k ^^^ (x.testBit k).toNat) ^^^ x / 2 ^ (k + 1) = st (it k (s ^^^ x))
    rw [← ih]
    have e : x / 2 ^ k = (x.testBit k).toNat ^^^ 2 * (x / 2 ^ (k + 1)) := by
      have h1 := low_xor (x / 2 ^ k) 1
      have h2 : x / 2 ^ k % 2 ^ 1 = (x.testBit k).toNat := by
        rw [Nat.testBit_eq_decide_div_mod_eq]
        have : x / 2 ^ k % 2 = 0 ∨ x / 2 ^ k % 2 = 1 := by omega
        rcases this with h | h <;> simp [h]
      have h3 : x / 2 ^ k / 2 ^ 1 = x / 2 ^ (k + 1) := by rw [Nat.div_div_eq_div_mul, Nat.pow_succ]; rfl
      rw [h2, h3, Nat.xor_comm] at h1
      exact h1
    rw [e, ← Nat.xor_assoc, st_xor _ (2 * _), st_even]
theorem go_all {s x k : Nat} (h : x < 2 ^ k) : go s (fun i => x.testBit i) k = it k (s ^^^ x) := by
  rw [← go_at, Nat.div_eq_of_lt h, Nat.xor_zero]
theorem upd_go (s : Nat) (c : UInt8) : upd s c = go s (fun i => c.toNat.testBit i) 8 := (go_all c.toNat_lt).symm

/-- the bits of bytes -/
def bt (l : List UInt8) (i : Nat) : Bool := (l.getD (i / 8) 0).toNat.testBit (i % 8)
theorem bt_cons (c : UInt8) (l : List UInt8) (i : Nat) : bt (c :: l) (8 + i) = bt l i := by
  unfold bt
  rw [show (8 + i) / 8 = i / 8 + 1 by omega, show (8 + i) % 8 = i % 8 by omega]; rfl
theorem bt_head (c : UInt8) (l : List UInt8) {i : Nat} (h : i < 8) : bt (c :: l) i = c.toNat.testBit i := by
  unfold bt
  rw [show i / 8 = 0 by omega, show i % 8 = i by omega]; rfl
theorem run_go (s : Nat) (l : List UInt8) : run s l = go s (bt l) (8 * l.length) := by
  induction l generalizing s with
  | nil => rfl
  | cons c l ih =>
    show run (upd s c) l = _
    rw [List.length_cons, show 8 * (l.length + 1) = 8 + 8 * l.length by omega, go_add, ih, upd_go]
    rw [go_congr 8 (fun i hi => (bt_head c l hi).symm)]
    exact go_congr _ (fun i _ => (bt_cons c l i).symm)

/-! ### what the laws say -/
/-- rows of as many bytes, their exclusive or -/
theorem sum_xor3 {a b c x : List UInt8} (hb : b.length = a.length) (hc : c.length = a.length) (hx : x.length = a.length) (h : ∀ i, i < a.length → x.getD i 0 = a.getD i 0 ^^^ b.getD i 0 ^^^ c.getD i 0) :
    sum x = sum a ^^^ sum b ^^^ sum c := by
  have hu : U32 4294967295 := by unfold U32; decide
  have e : run 4294967295 x = (run 4294967295 a ^^^ run 4294967295 b) ^^^ run 4294967295 c := by
    rw [run_go, run_go, run_go, run_go, hb, hc, hx, ← go_xor, ← go_xor]
    refine go_congr _ (fun i hi => ?_)
    unfold bt
    rw [h _ (by omega), UInt8.toNat_xor, UInt8.toNat_xor, Nat.testBit_xor, Nat.testBit_xor]
  unfold sum
  rw [tn_xor (run_u32 hu _), tn_xor (run_u32 hu _), tn_xor (run_u32 hu _), tn_xor (run_u32 hu _), e, xor4 4294967295 _ 4294967295 _, Nat.xor_self, Nat.zero_xor, Nat.xor_comm (run 4294967295 a ^^^ run 4294967295 b) (4294967295 ^^^ _), Nat.xor_assoc 4294967295 (run 4294967295 c) _, Nat.xor_comm (run 4294967295 c) _]
/-- which bits are turned, up to the k-th of them -/
def tb (f m k i : Nat) : Bool := decide (f ≤ i ∧ i < f + k) && m.testBit (i - f)
theorem sum_turned {b c : List UInt8} {f m : Nat} (hc : c.length = b.length) (hf : f + 32 ≤ 8 * b.length) (hm : U32 m) (h0 : m ≠ 0) (h : ∀ i, i < 8 * b.length → bt c i = (bt b i ^^ tb f m 32 i)) : sum c ≠ sum b := by
  intro he
  have hu : U32 4294967295 := by unfold U32; decide
  have h1 : run 4294967295 c = run 4294967295 b := by
    have := congrArg tn he
    unfold sum at this
    rwa [tn_tn (run_u32 hu _), tn_tn (run_u32 hu _)] at this
  rw [run_go, run_go, hc] at h1
  have h2 : go 4294967295 (bt c) (8 * b.length) = go 4294967295 (bt b) (8 * b.length) ^^^ go 0 (tb f m 32) (8 * b.length) := by
    rw [← go_xor, Nat.xor_zero]
    exact go_congr _ h
  rw [h1] at h2
  have h3 : go 0 (tb f m 32) (8 * b.length) = 0 := by
    have := congrArg (fun z => go 4294967295 (bt b) (8 * b.length) ^^^ z) h2
    simp only [← Nat.xor_assoc, Nat.xor_self, Nat.zero_xor] at this
    exact this.symm
  obtain ⟨r, hr⟩ : ∃ r, 8 * b.length = f + (32 + r) := ⟨8 * b.length - f - 32, by omega⟩
  rw [hr, go_add, go_add] at h3
  have z1 : go 0 (tb f m 32) f = 0 := by
    rw [go_congr (C := fun _ => false) f (fun i hi => by unfold tb; rw [decide_eq_false (by omega)]; rfl), go_none, it_zero]
  have z2 : go 0 (fun i => tb f m 32 (f + i)) 32 = it 32 m := by
    rw [go_congr (C := fun i => m.testBit i) 32 (fun i hi => by unfold tb; rw [decide_eq_true (by omega), Nat.add_sub_cancel_left]; rfl), go_all hm, Nat.zero_xor]
  have z3 : ∀ s, go s (fun i => tb f m 32 (f + (32 + i))) r = it r s := fun s => by
    rw [go_congr (C := fun _ => false) r (fun i hi => by unfold tb; rw [decide_eq_false (by omega)]; rfl), go_none]
  rw [z1, z2, z3] at h3
  exact h0 (it_null hm 32 (it_null (hm.it 32) r h3))

/-- a number's four bytes, the lowest first -/
def le4 (x : Nat) : List UInt8 := [(x % 256).toUInt8, (x / 256 % 256).toUInt8, (x / 65536 % 256).toUInt8, (x / 16777216 % 256).toUInt8]
theorem byte_nat {n : Nat} (h : n < 256) : n.toUInt8.toNat = n := by simp [Nat.toUInt8, UInt8.toNat_ofNat']; omega
theorem byte_bit (x k j : Nat) (h : j < 8) : (x / 2 ^ k % 256).testBit j = x.testBit (k + j) := by
  rw [show (256 : Nat) = 2 ^ 8 by rfl, Nat.testBit_mod_two_pow, Nat.testBit_div_two_pow, Nat.add_comm]; simp [h]
theorem le4_bit (x : Nat) {i : Nat} (h : i < 32) : bt (le4 x) i = x.testBit i := by
  have hi : i / 8 = 0 ∨ i / 8 = 1 ∨ i / 8 = 2 ∨ i / 8 = 3 := by omega
  unfold bt le4
  rcases hi with e | e | e | e <;> rw [e] <;> simp only [List.getD_cons_zero, List.getD_cons_succ] <;> rw [byte_nat (by omega)]
  · have := byte_bit x 0 (i % 8) (by omega); rw [show x / 2 ^ 0 = x by simp] at this; rw [this]; congr 1; omega
  · exact (byte_bit x 8 (i % 8) (by omega)).trans (by congr 1; omega)
  · exact (byte_bit x 16 (i % 8) (by omega)).trans (by congr 1; omega)
  · exact (byte_bit x 24 (i % 8) (by omega)).trans (by congr 1; omega)
theorem more_unlike {s x y : Nat} (hx : U32 x) (hy : U32 y) : more s (le4 x) = more s (le4 y) ↔ x = y := by
  refine ⟨fun h => ?_, fun h => by rw [h]⟩
  have hs := tn_u32 s
  have h1 : run (tn s) (le4 x) = run (tn s) (le4 y) := by
    have := congrArg tn h
    unfold more at this
    rwa [tn_tn (run_u32 hs _), tn_tn (run_u32 hs _)] at this
  rw [run_go, run_go, show (le4 x).length = 4 from rfl, show (le4 y).length = 4 from rfl, go_congr (C := fun i => x.testBit i) (8 * 4) (fun i hi => le4_bit x (by omega)), go_congr (C := fun i => y.testBit i) (8 * 4) (fun i hi => le4_bit y (by omega)), go_all hx, go_all hy] at h1
  have h2 := it_inj (hs.xor hx) (hs.xor hy) _ h1
  have := congrArg (fun z => tn s ^^^ z) h2
  simpa only [← Nat.xor_assoc, Nat.xor_self, Nat.zero_xor] using this

/-- the chapter's example -/
theorem sum_lives : sum [49, 50, 51, 52, 53, 54, 55, 56, 57] = 3421780262 := by decide +kernel
end Go.Proofs.YtcodjknhnhdkfaaDoor.Cr
