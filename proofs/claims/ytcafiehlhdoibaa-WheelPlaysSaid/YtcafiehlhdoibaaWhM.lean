
/- plain mathematics of wheels: digits, places, timers -/
import Derived.Test.YtcafiehlhdoibaaHpF
import Derived.Lib.ItoaNum
namespace Go.Proofs.Ytcafiehlhdoibaa.Wh
open Go.RowKit Go.Maps Go.Sort Hp
set_option linter.unusedVariables false
set_option linter.unusedSectionVars false

/-- the level of the highest digit in which two ticks differ -/
def lv (a b : Nat) : Nat := (Lib.bitLen (a ^^^ b) - 1) / 6
/-- a digit -/
def dg (t l : Nat) : Nat := t / 64 ^ l % 64
theorem bl_spec {x : Nat} (h0 : x ≠ 0) (h : x < 2 ^ 42) : 1 ≤ Lib.bitLen x ∧ 2 ^ (Lib.bitLen x - 1) ≤ x ∧ x < 2 ^ Lib.bitLen x ∧ Lib.bitLen x ≤ 42 := by
  have h64 : x < 2 ^ 64 := Nat.lt_trans h (by decide)
  have hb := Lib.bitLenAux_bounds 64 x h64 h0
  change 1 ≤ Lib.bitLen x ∧ 2 ^ (Lib.bitLen x - 1) ≤ x ∧ x < 2 ^ Lib.bitLen x at hb
  refine ⟨hb.1, hb.2.1, hb.2.2, ?_⟩
  have h1 : 2 ^ (Lib.bitLen x - 1) < 2 ^ 42 := Nat.lt_of_le_of_lt hb.2.1 h
  have h2 := (Nat.pow_lt_pow_iff_right (by decide : 1 < 2)).1 h1
  omega
theorem pow64 (l : Nat) : 64 ^ l = 2 ^ (6 * l) := by rw [Nat.pow_mul]
theorem div_xor (a b k : Nat) : (a ^^^ b) / 2 ^ k = a / 2 ^ k ^^^ b / 2 ^ k := by
  rw [← Nat.shiftRight_eq_div_pow, ← Nat.shiftRight_eq_div_pow, ← Nat.shiftRight_eq_div_pow, Nat.shiftRight_xor_distrib]
theorem xor_zero_iff (a b : Nat) : a ^^^ b = 0 ↔ a = b := by
  constructor
  · intro h
    have : a ^^^ b ^^^ b = 0 ^^^ b := by rw [h]
    rw [Nat.xor_assoc, Nat.xor_self, Nat.xor_zero, Nat.zero_xor] at this
    exact this
  · rintro rfl; exact Nat.xor_self _
theorem div_eq_iff (a b l : Nat) : a / 64 ^ l = b / 64 ^ l ↔ (a ^^^ b) / 2 ^ (6 * l) = 0 := by
  rw [pow64, div_xor, xor_zero_iff]
theorem lv_spec {a b : Nat} (hne : a ≠ b) (ha : a < 2 ^ 42) (hb : b < 2 ^ 42) : a / 64 ^ (lv a b + 1) = b / 64 ^ (lv a b + 1) ∧ a / 64 ^ lv a b ≠ b / 64 ^ lv a b ∧ lv a b < 7 := by
  have hx0 : a ^^^ b ≠ 0 := fun e => hne ((xor_zero_iff _ _).1 e)
  obtain ⟨h1, h2, h3, h4⟩ := bl_spec hx0 (Nat.xor_lt_two_pow ha hb)
  refine ⟨(div_eq_iff _ _ _).2 (Nat.div_eq_of_lt (Nat.lt_of_lt_of_le h3 (Nat.pow_le_pow_right (by decide) (by unfold lv; omega)))), fun e => ?_, by unfold lv; omega⟩
  have e2 := (div_eq_iff _ _ _).1 e
  rw [Nat.div_eq_zero_iff] at e2
  rcases e2 with e2 | e2
  · exact absurd e2 (Nat.pos_iff_ne_zero.1 (Nat.two_pow_pos _))
  · have : 2 ^ (6 * lv a b) ≤ 2 ^ (Lib.bitLen (a ^^^ b) - 1) := Nat.pow_le_pow_right (by decide) (by unfold lv; omega)
    omega
theorem div_up {a b i j : Nat} (h : a / 64 ^ i = b / 64 ^ i) (hij : i ≤ j) : a / 64 ^ j = b / 64 ^ j := by
  obtain ⟨d, rfl⟩ := Nat.exists_eq_add_of_le hij
  rw [Nat.pow_add, ← Nat.div_div_eq_div_mul, ← Nat.div_div_eq_div_mul, h]
theorem lv_of {a b l : Nat} (ha : a < 2 ^ 42) (hb : b < 2 ^ 42) (h1 : a / 64 ^ (l + 1) = b / 64 ^ (l + 1)) (h2 : a / 64 ^ l ≠ b / 64 ^ l) : lv a b = l := by
  have hne : a ≠ b := fun e => h2 (by rw [e])
  obtain ⟨g1, g2, _⟩ := lv_spec hne ha hb
  rcases Nat.lt_trichotomy (lv a b) l with h | h | h
  · exact absurd (div_up g1 h) h2
  · exact h
  · exact absurd (div_up h1 h) g2
/-- a timer's place, as long as now is what it is -/
def pn (now t : Nat) : Nat := if t ≤ now then 0 else 1 + 64 * lv t now + dg t (lv t now)
theorem dg_lt (t l : Nat) : dg t l < 64 := Nat.mod_lt _ (by decide)
theorem pn_lt {now t : Nat} (hn : now < 2 ^ 42) (ht : t < 2 ^ 42) : pn now t < 449 := by
  unfold pn
  split
  · omega
  · have := (lv_spec (a := t) (b := now) (by omega) ht hn).2.2
    have := dg_lt t (lv t now)
    omega
theorem div_split (t l : Nat) : t / 64 ^ l = 64 * (t / 64 ^ (l + 1)) + dg t l := by
  unfold dg
  rw [Nat.pow_succ, ← Nat.div_div_eq_div_mul]
  omega
theorem pn_mono {now t t' : Nat} (hn : now < 2 ^ 42) (ht : t' < 2 ^ 42) (h : t ≤ t') : pn now t ≤ pn now t' := by
  unfold pn
  by_cases h0 : t ≤ now
  · rw [if_pos h0]; omega
  rw [if_neg h0, if_neg (by omega)]
  obtain ⟨a1, a2, a3⟩ := lv_spec (a := t) (b := now) (by omega) (by omega) hn
  obtain ⟨b1, b2, b3⟩ := lv_spec (a := t') (b := now) (by omega) ht hn
  have c1 : now / 64 ^ (lv t' now + 1) ≤ t / 64 ^ (lv t' now + 1) := Nat.div_le_div_right (by omega)
  have c2 : t / 64 ^ (lv t' now + 1) ≤ t' / 64 ^ (lv t' now + 1) := Nat.div_le_div_right h
  have c3 : t / 64 ^ (lv t' now + 1) = now / 64 ^ (lv t' now + 1) := by omega
  have hle : lv t now ≤ lv t' now := by
    rcases Nat.lt_or_ge (lv t' now) (lv t now) with h1 | h1
    · exact absurd (div_up c3 h1) a2
    · exact h1
  by_cases e : lv t now = lv t' now
  · rw [e]
    have d1 := div_split t (lv t' now)
    have d2 := div_split t' (lv t' now)
    have d3 : t / 64 ^ lv t' now ≤ t' / 64 ^ lv t' now := Nat.div_le_div_right h
    omega
  · have := dg_lt t (lv t now)
    omega
theorem pn_turn {now to t : Nat} (hn : now ≤ to) (ht : t < 2 ^ 42) (hto : to < 2 ^ 42) (h : pn now to < pn now t) : to < t ∧ pn to t = pn now t := by
  have hlt : to < t := by
    rcases Nat.lt_or_ge to t with h1 | h1
    · exact h1
    · have := pn_mono (now := now) (by omega) hto h1
      omega
  refine ⟨hlt, ?_⟩
  suffices hl : lv t to = lv t now by
    unfold pn
    rw [if_neg (by omega), if_neg (by omega), hl]
  obtain ⟨a1, a2, a3⟩ := lv_spec (a := t) (b := now) (by omega) ht (by omega)
  have c2 : to / 64 ^ (lv t now + 1) ≤ t / 64 ^ (lv t now + 1) := Nat.div_le_div_right (by omega)
  have c1 : now / 64 ^ (lv t now + 1) ≤ to / 64 ^ (lv t now + 1) := Nat.div_le_div_right hn
  refine lv_of ht hto (by omega) (fun e => ?_)
  -- then to stands on t's level, at t's digit, or beyond
  have hlt2 : now / 64 ^ lv t now < to / 64 ^ lv t now := by
    have : now / 64 ^ lv t now ≤ t / 64 ^ lv t now := Nat.div_le_div_right (by omega)
    omega
  have hne : to ≠ now := fun e2 => by rw [e2] at hlt2; omega
  have e3 : lv to now = lv t now := lv_of hto (by omega) (by omega) (by omega)
  unfold pn at h
  rw [if_neg (by omega), if_neg (by omega), e3] at h
  have d1 := div_split t (lv t now)
  have d2 := div_split to (lv t now)
  omega
theorem pn_self (now : Nat) : pn now now = 0 := by unfold pn; rw [if_pos (Nat.le_refl _)]
theorem pn_pos {now t : Nat} : 0 < pn now t ↔ now < t := by
  unfold pn; split <;> omega
/-- .. of ticks -/
def pc (now t : Int) : Nat := pn now.toNat t.toNat
abbrev K := List UInt8
/-- the greatest tick -/
def MT : Int := 1099511627776
def Tk (t : Int) : Prop := 0 ≤ t ∧ t ≤ MT
theorem Tk.lt {t : Int} (h : Tk t) : t.toNat < 2 ^ 42 := by
  have h1 := h.1
  have h2 := h.2
  unfold MT at h2
  omega
theorem pc_lt {now t : Int} (hn : Tk now) (ht : Tk t) : pc now t < 449 := pn_lt hn.lt ht.lt
theorem pc_mono {now t t' : Int} (hn : Tk now) (ht : Tk t') (h : t ≤ t') : pc now t ≤ pc now t' := pn_mono hn.lt ht.lt (by omega)
theorem pc_turn {now to t : Int} (hn : Tk now) (hto : Tk to) (ht : Tk t) (h : now ≤ to) (hp : pc now to < pc now t) : to < t ∧ pc to t = pc now t := by
  have := pn_turn (now := now.toNat) (to := to.toNat) (t := t.toNat) (by omega) ht.lt hto.lt hp
  have h1 := hto.1
  have h2 := ht.1
  exact ⟨by omega, this.2⟩
theorem pc_self (now : Int) : pc now now = 0 := pn_self _
theorem pc_zero {now t : Int} (hn : Tk now) (ht : Tk t) : pc now t = 0 ↔ t ≤ now := by
  have := pn_pos (now := now.toNat) (t := t.toNat)
  have h1 := hn.1
  have h2 := ht.1
  unfold pc
  omega
/-- what stands at a place -/
def gs (now : Int) (h : K → Option Int) (s : Nat) : K → Option Int := fun k => (h k).filter fun t => pc now t = s
/-- what stands from a place on -/
def frm (now : Int) (h : K → Option Int) (p : Nat) : K → Option Int := fun k => (h k).filter fun t => p ≤ pc now t
theorem gs_some {now : Int} {h : K → Option Int} {s : Nat} {k : K} {t : Int} : gs now h s k = some t ↔ h k = some t ∧ pc now t = s := by
  unfold gs; simp [Option.filter_eq_some_iff]
theorem frm_some {now : Int} {h : K → Option Int} {p : Nat} {k : K} {t : Int} : frm now h p k = some t ↔ h k = some t ∧ p ≤ pc now t := by
  unfold frm; simp [Option.filter_eq_some_iff]
theorem ext_some {f g : K → Option Int} (h : ∀ k t, f k = some t ↔ g k = some t) : f = g := by
  funext k
  exact Option.ext fun t => by simpa using h k t
theorem frm_zero (now : Int) (h : K → Option Int) : frm now h 0 = h := ext_some fun k t => by rw [frm_some]; simp
theorem upd_some {f : K → Option Int} {k : K} {x : Int} {k' : K} {t : Int} : upd f k x k' = some t ↔ (k' = k ∧ x = t) ∨ (k' ≠ k ∧ f k' = some t) := by
  unfold upd
  by_cases e : k' = k
  · simp [e]
  · simp [e]
theorem del_some {f : K → Option Int} {k : K} {k' : K} {t : Int} : del f k k' = some t ↔ k' ≠ k ∧ f k' = some t := by
  unfold del
  by_cases e : k' = k
  · simp [e]
  · simp [e]
/-- timers in a row: these, each once -/
def Ls (f : K → Option Int) (m : List (K × Int)) : Prop := (m.map (·.1)).Nodup ∧ ∀ k t, (k, t) ∈ m ↔ f k = some t
theorem Ls.nil : Ls (fun _ => none) [] := ⟨by simp, fun k t => by simp⟩
theorem Ls.perm {f : K → Option Int} {m m' : List (K × Int)} (h : Ls f m) (e : m'.Perm m) : Ls f m' :=
  ⟨((e.map (·.1)).nodup_iff).2 h.1, fun k t => by rw [e.mem_iff]; exact h.2 k t⟩
theorem nodup_of_keys {m : List (K × Int)} (h : (m.map (·.1)).Nodup) : m.Nodup := by
  rw [List.nodup_iff_pairwise_ne, List.pairwise_map] at h
  rw [List.nodup_iff_pairwise_ne]
  exact h.imp fun h e => h (by rw [e])
theorem Ls.same {f : K → Option Int} {m m' : List (K × Int)} (h : Ls f m) (h' : Ls f m') : m.Perm m' :=
  (List.perm_ext_iff_of_nodup (nodup_of_keys h.1) (nodup_of_keys h'.1)).2 fun p => by obtain ⟨k, t⟩ := p; rw [h.2, h'.2]
theorem Ls.fresh {f : K → Option Int} {m : List (K × Int)} (h : Ls f m) {k : K} (hk : f k = none) : k ∉ m.map (·.1) := fun hm => by
  obtain ⟨⟨k', t⟩, h1, rfl⟩ := List.mem_map.1 hm
  rw [h.2] at h1
  simp only at hk
  rw [hk] at h1; cases h1
theorem Ls.put {f : K → Option Int} {m : List (K × Int)} (h : Ls f m) {k : K} (hk : f k = none) (t : Int) : Ls (upd f k t) (m ++ [(k, t)]) := by
  refine ⟨?_, fun k' t' => ?_⟩
  · rw [List.map_append, List.nodup_append]
    refine ⟨h.1, by simp, fun a ha b hb e => ?_⟩
    simp at hb
    subst hb
    subst e
    exact h.fresh hk ha
  · rw [upd_some, List.mem_append, h.2, List.mem_singleton, Prod.mk.injEq]
    constructor
    · rintro (h1 | ⟨h1, h2⟩)
      · exact .inr ⟨fun e => (by rw [e, hk] at h1; cases h1), h1⟩
      · exact .inl ⟨h1, h2.symm⟩
    · rintro (⟨h1, h2⟩ | ⟨_, h1⟩)
      · exact .inr ⟨h1, h2.symm⟩
      · exact .inl h1
theorem Ls.filter {f : K → Option Int} {m : List (K × Int)} (h : Ls f m) (p : K × Int → Bool) (g : K → Option Int) (hg : ∀ k t, g k = some t ↔ f k = some t ∧ p (k, t) = true) : Ls g (m.filter p) :=
  ⟨List.Nodup.sublist (List.filter_sublist.map _) h.1, fun k t => by rw [List.mem_filter, h.2, hg]⟩
theorem Ls.cut {f : K → Option Int} {m : List (K × Int)} (h : Ls f m) (k : K) : Ls (del f k) (m.filter fun x => x.1 ≠ k) := h.filter _ _ fun k' t => by rw [del_some]; simp [And.comm]
/-- two rows of timers with no name in both -/
theorem Ls.join {f g e : K → Option Int} {m m' : List (K × Int)} (h : Ls f m) (h' : Ls g m') (hd : ∀ k t, f k = some t → g k = none) (he : ∀ k t, e k = some t ↔ f k = some t ∨ g k = some t) : Ls e (m ++ m') := by
  refine ⟨?_, fun k t => by rw [List.mem_append, h.2, h'.2, he]⟩
  rw [List.map_append, List.nodup_append]
  refine ⟨h.1, h'.1, fun a ha b hb e => ?_⟩
  subst e
  obtain ⟨⟨k1, t1⟩, h1, rfl⟩ := List.mem_map.1 ha
  rw [h.2] at h1
  exact h'.fresh (hd _ _ h1) hb
end Go.Proofs.Ytcafiehlhdoibaa.Wh
