/- plain mathematics of wheels: digits, places, timers -/
import Derived.Test.YtcodjknhnhdkfaaGreatDoorBr07
import Derived.Lib.ItoaNum
import Derived.Test.YtcodjknhnhdkfaaGreatDoorBrHs
import Derived.Test.YtcodjknhnhdkfaaGreatDoorAo
import Derived.Maps.RangeWalk
import Derived.Sort.MapsRangeIn
namespace Go.Proofs.YtcodjknhnhdkfaaGreatDoor.Wh
open Go.RowKit Go.Maps Go.Sort Hp
set_option linter.unusedVariables false
set_option linter.unusedSectionVars false

/-- the level of the highest digit in which two ticks differ -/
def lv (a b : Nat) : Nat := (Lib.bitLen (a ^^^ b) - 1) / 6
/-- a digit -/
def dg (t l : Nat) : Nat := t / 64 ^ l % 64
theorem bl_spec {x : Nat} (h0 : x ≠ 0) (h : x < 2 ^ 42) : 1 ≤ Lib.bitLen x ∧ 2 ^ (Lib.bitLen x - 1) ≤ x ∧ x < 2 ^ Lib.bitLen x ∧ Lib.bitLen x ≤ 42 := by
  have h64 : x < 2 ^ 64 := Nat.lt_trans h (by decide)
  have hb := Lib.bitLenAux_bounds 64 x h64 h0
  change 1 ≤ Lib.bitLen x ∧ 2 ^ (Lib.bitLen x - 1) ≤ x ∧ x < 2 ^ Lib.bitLen x at hb
  refine ⟨hb.1, hb.2.1, hb.2.2, ?_⟩
  have h1 : 2 ^ (Lib.bitLen x - 1) < 2 ^ 42 := Nat.lt_of_le_of_lt hb.2.1 h
  have h2 := (Nat.pow_lt_pow_iff_right (by decide : 1 < 2)).1 h1
  omega
theorem pow64 (l : Nat) : 64 ^ l = 2 ^ (6 * l) := by rw [Nat.pow_mul]
theorem div_xor (a b k : Nat) : (a ^^^ b) / 2 ^ k = a / 2 ^ k ^^^ b / 2 ^ k := by
  rw [← Nat.shiftRight_eq_div_pow, ← Nat.shiftRight_eq_div_pow, ← Nat.shiftRight_eq_div_pow, Nat.shiftRight_xor_distrib]
theorem xor_zero_iff (a b : Nat) : a ^^^ b = 0 ↔ a = b := by
  constructor
  · intro h
    have : a ^^^ b ^^^ b = 0 ^^^ b := by rw [h]
    rw [Nat.xor_assoc, Nat.xor_self, Nat.xor_zero, Nat.zero_xor] at this
    exact this
  · rintro rfl; exact Nat.xor_self _
theorem div_eq_iff (a b l : Nat) : a / 64 ^ l = b / 64 ^ l ↔ (a ^^^ b) / 2 ^ (6 * l) = 0 := by
  rw [pow64, div_xor, xor_zero_iff]
theorem lv_spec {a b : Nat} (hne : a ≠ b) (ha : a < 2 ^ 42) (hb : b < 2 ^ 42) : a / 64 ^ (lv a b + 1) = b / 64 ^ (lv a b + 1) ∧ a / 64 ^ lv a b ≠ b / 64 ^ lv a b ∧ lv a b < 7 := by
  have hx0 : a ^^^ b ≠ 0 := fun e => hne ((xor_zero_iff _ _).1 e)
  obtain ⟨h1, h2, h3, h4⟩ := bl_spec hx0 (Nat.xor_lt_two_pow ha hb)
  refine ⟨(div_eq_iff _ _ _).2 (Nat.div_eq_of_lt (Nat.lt_of_lt_of_le h3 (Nat.pow_le_pow_right (by decide) (by unfold lv; omega)))), fun e => ?_, by unfold lv; omega⟩
  have e2 := (div_eq_iff _ _ _).1 e
  rw [Nat.div_eq_zero_iff] at e2
  rcases e2 with e2 | e2
  · exact absurd e2 (Nat.pos_iff_ne_zero.1 (Nat.two_pow_pos _))
  · have : 2 ^ (6 * lv a b) ≤ 2 ^ (Lib.bitLen (a ^^^ b) - 1) := Nat.pow_le_pow_right (by decide) (by unfold lv; omega)
    omega
theorem div_up {a b i j : Nat} (h : a / 64 ^ i = b / 64 ^ i) (hij : i ≤ j) : a / 64 ^ j = b / 64 ^ j := by
  obtain ⟨d, rfl⟩ := Nat.exists_eq_add_of_le hij
  rw [Nat.pow_add, ← Nat.div_div_eq_div_mul, ← Nat.div_div_eq_div_mul, h]
theorem lv_of {a b l : Nat} (ha : a < 2 ^ 42) (hb : b < 2 ^ 42) (h1 : a / 64 ^ (l + 1) = b / 64 ^ (l + 1)) (h2 : a / 64 ^ l ≠ b / 64 ^ l) : lv a b = l := by
  have hne : a ≠ b := fun e => h2 (by rw [e])
  obtain ⟨g1, g2, _⟩ := lv_spec hne ha hb
  rcases Nat.lt_trichotomy (lv a b) l with h | h | h
  · exact absurd (div_up g1 h) h2
  · exact h
  · exact absurd (div_up h1 h) g2
/-- a timer's place, as long as now is what it is -/
def pn (now t : Nat) : Nat := if t ≤ now then 0 else 1 + 64 * lv t now + dg t (lv t now)
theorem dg_lt (t l : Nat) : dg t l < 64 := Nat.mod_lt _ (by decide)
theorem pn_lt {now t : Nat} (hn : now < 2 ^ 42) (ht : t < 2 ^ 42) : pn now t < 449 := by
  unfold pn
  split
  · omega
  · have := (lv_spec (a := t) (b := now) (by omega) ht hn).2.2
    have := dg_lt t (lv t now)
    omega
theorem div_split (t l : Nat) : t / 64 ^ l = 64 * (t / 64 ^ (l + 1)) + dg t l := by
  unfold dg
  rw [Nat.pow_succ, ← Nat.div_div_eq_div_mul]
  omega
theorem pn_mono {now t t' : Nat} (hn : now < 2 ^ 42) (ht : t' < 2 ^ 42) (h : t ≤ t') : pn now t ≤ pn now t' := by
  unfold pn
  by_cases h0 : t ≤ now
  · rw [if_pos h0]; omega
  rw [if_neg h0, if_neg (by omega)]
  obtain ⟨a1, a2, a3⟩ := lv_spec (a := t) (b := now) (by omega) (by omega) hn
  obtain ⟨b1, b2, b3⟩ := lv_spec (a := t') (b := now) (by omega) ht hn
  have c1 : now / 64 ^ (lv t' now + 1) ≤ t / 64 ^ (lv t' now + 1) := Nat.div_le_div_right (by omega)
  have c2 : t / 64 ^ (lv t' now + 1) ≤ t' / 64 ^ (lv t' now + 1) := Nat.div_le_div_right h
  have c3 : t / 64 ^ (lv t' now + 1) = now / 64 ^ (lv t' now + 1) := by omega
  have hle : lv t now ≤ lv t' now := by
    rcases Nat.lt_or_ge (lv t' now) (lv t now) with h1 | h1
    · exact absurd (div_up c3 h1) a2
    · exact h1
  by_cases e : lv t now = lv t' now
  · rw [e]
    have d1 := div_split t (lv t' now)
    have d2 := div_split t' (lv t' now)
    have d3 : t / 64 ^ lv t' now ≤ t' / 64 ^ lv t' now := Nat.div_le_div_right h
    omega
  · have := dg_lt t (lv t now)
    omega
theorem pn_turn {now tO t : Nat} (hn : now ≤ tO) (ht : t < 2 ^ 42) (hto : tO < 2 ^ 42) (h : pn now tO < pn now t) : tO < t ∧ pn tO t = pn now t := by
  have hlt : tO < t := by
    rcases Nat.lt_or_ge tO t with h1 | h1
    · exact h1
    · have := pn_mono (now := now) (by omega) hto h1
      omega
  refine ⟨hlt, ?_⟩
  suffices hl : lv t tO = lv t now by
    unfold pn
    rw [if_neg (by omega), if_neg (by omega), hl]
  obtain ⟨a1, a2, a3⟩ := lv_spec (a := t) (b := now) (by omega) ht (by omega)
  have c2 : tO / 64 ^ (lv t now + 1) ≤ t / 64 ^ (lv t now + 1) := Nat.div_le_div_right (by omega)
  have c1 : now / 64 ^ (lv t now + 1) ≤ tO / 64 ^ (lv t now + 1) := Nat.div_le_div_right hn
  refine lv_of ht hto (by omega) (fun e => ?_)
  -- then to stands on t's level, at t's digit, or beyond
  have hlt2 : now / 64 ^ lv t now < tO / 64 ^ lv t now := by
    have : now / 64 ^ lv t now ≤ t / 64 ^ lv t now := Nat.div_le_div_right (by omega)
    omega
  have hne : tO ≠ now := fun e2 => by rw [e2] at hlt2; omega
  have e3 : lv tO now = lv t now := lv_of hto (by omega) (by omega) (by omega)
  unfold pn at h
  rw [if_neg (by omega), if_neg (by omega), e3] at h
  have d1 := div_split t (lv t now)
  have d2 := div_split tO (lv t now)
  omega
theorem pn_self (now : Nat) : pn now now = 0 := by unfold pn; rw [if_pos (Nat.le_refl _)]
theorem pn_pos {now t : Nat} : 0 < pn now t ↔ now < t := by
  unfold pn; split <;> omega
/-- .. of ticks -/
def pc (now t : Int) : Nat := pn now.toNat t.toNat
abbrev K := List UInt8
/-- the greatest tick -/
def MT : Int := 1099511627776
def Tk (t : Int) : Prop := 0 ≤ t ∧ t ≤ MT
theorem Tk.lt {t : Int} (h : Tk t) : t.toNat < 2 ^ 42 := by
  have h1 := h.1
  have h2 := h.2
  unfold MT at h2
  omega
theorem pc_lt {now t : Int} (hn : Tk now) (ht : Tk t) : pc now t < 449 := pn_lt hn.lt ht.lt
theorem pc_mono {now t t' : Int} (hn : Tk now) (ht : Tk t') (h : t ≤ t') : pc now t ≤ pc now t' := pn_mono hn.lt ht.lt (by omega)
theorem pc_turn {now tO t : Int} (hn : Tk now) (hto : Tk tO) (ht : Tk t) (h : now ≤ tO) (hp : pc now tO < pc now t) : tO < t ∧ pc tO t = pc now t := by
  have := pn_turn (now := now.toNat) (tO := tO.toNat) (t := t.toNat) (by omega) ht.lt hto.lt hp
  have h1 := hto.1
  have h2 := ht.1
  exact ⟨by omega, this.2⟩
theorem pc_self (now : Int) : pc now now = 0 := pn_self _
theorem pc_zero {now t : Int} (hn : Tk now) (ht : Tk t) : pc now t = 0 ↔ t ≤ now := by
  have := pn_pos (now := now.toNat) (t := t.toNat)
  have h1 := hn.1
  have h2 := ht.1
  unfold pc
  omega
/-- what stands at a place -/
def gs (now : Int) (h : K → Option Int) (s : Nat) : K → Option Int := fun k => (h k).filter fun t => pc now t = s
/-- what stands from a place on -/
def frm (now : Int) (h : K → Option Int) (p : Nat) : K → Option Int := fun k => (h k).filter fun t => p ≤ pc now t
theorem gs_some {now : Int} {h : K → Option Int} {s : Nat} {k : K} {t : Int} : gs now h s k = some t ↔ h k = some t ∧ pc now t = s := by
  unfold gs; simp [Option.filter_eq_some_iff]
theorem frm_some {now : Int} {h : K → Option Int} {p : Nat} {k : K} {t : Int} : frm now h p k = some t ↔ h k = some t ∧ p ≤ pc now t := by
  unfold frm; simp [Option.filter_eq_some_iff]
theorem ext_some {f g : K → Option Int} (h : ∀ k t, f k = some t ↔ g k = some t) : f = g := by
  funext k
  exact Option.ext fun t => by simpa using h k t
theorem frm_zero (now : Int) (h : K → Option Int) : frm now h 0 = h := ext_some fun k t => by rw [frm_some]; simp
theorem upd_some {f : K → Option Int} {k : K} {x : Int} {k' : K} {t : Int} : upd f k x k' = some t ↔ (k' = k ∧ x = t) ∨ (k' ≠ k ∧ f k' = some t) := by
  unfold upd
  by_cases e : k' = k
  · simp [e]
  · simp [e]
theorem del_some {f : K → Option Int} {k : K} {k' : K} {t : Int} : del f k k' = some t ↔ k' ≠ k ∧ f k' = some t := by
  unfold del
  by_cases e : k' = k
  · simp [e]
  · simp [e]
/-- timers in a row: these, each once -/
def Ls (f : K → Option Int) (m : List (K × Int)) : Prop := (m.map (·.1)).Nodup ∧ ∀ k t, (k, t) ∈ m ↔ f k = some t
theorem Ls.nil : Ls (fun _ => none) [] := ⟨by simp, fun k t => by simp⟩
theorem Ls.perm {f : K → Option Int} {m m' : List (K × Int)} (h : Ls f m) (e : m'.Perm m) : Ls f m' :=
  ⟨((e.map (·.1)).nodup_iff).2 h.1, fun k t => by rw [e.mem_iff]; exact h.2 k t⟩
theorem nodup_of_keys {m : List (K × Int)} (h : (m.map (·.1)).Nodup) : m.Nodup := by
  rw [List.nodup_iff_pairwise_ne, List.pairwise_map] at h
  rw [List.nodup_iff_pairwise_ne]
  exact h.imp fun h e => h (by rw [e])
theorem Ls.same {f : K → Option Int} {m m' : List (K × Int)} (h : Ls f m) (h' : Ls f m') : m.Perm m' :=
  (List.perm_ext_iff_of_nodup (nodup_of_keys h.1) (nodup_of_keys h'.1)).2 fun p => by obtain ⟨k, t⟩ := p; rw [h.2, h'.2]
theorem Ls.fresh {f : K → Option Int} {m : List (K × Int)} (h : Ls f m) {k : K} (hk : f k = none) : k ∉ m.map (·.1) := fun hm => by
  obtain ⟨⟨k', t⟩, h1, rfl⟩ := List.mem_map.1 hm
  rw [h.2] at h1
  simp only at hk
  rw [hk] at h1; cases h1
theorem Ls.put {f : K → Option Int} {m : List (K × Int)} (h : Ls f m) {k : K} (hk : f k = none) (t : Int) : Ls (upd f k t) (m ++ [(k, t)]) := by
  refine ⟨?_, fun k' t' => ?_⟩
  · rw [List.map_append, List.nodup_append]
    refine ⟨h.1, by simp, fun a ha b hb e => ?_⟩
    simp at hb
    subst hb
    subst e
    exact h.fresh hk ha
  · rw [upd_some, List.mem_append, h.2, List.mem_singleton, Prod.mk.injEq]
    constructor
    · rintro (h1 | ⟨h1, h2⟩)
      · exact .inr ⟨fun e => (by rw [e, hk] at h1; cases h1), h1⟩
      · exact .inl ⟨h1, h2.symm⟩
    · rintro (⟨h1, h2⟩ | ⟨_, h1⟩)
      · exact .inr ⟨h1, h2.symm⟩
      · exact .inl h1
theorem Ls.filter {f : K → Option Int} {m : List (K × Int)} (h : Ls f m) (p : K × Int → Bool) (g : K → Option Int) (hg : ∀ k t, g k = some t ↔ f k = some t ∧ p (k, t) = true) : Ls g (m.filter p) :=
  ⟨List.Nodup.sublist (List.filter_sublist.map _) h.1, fun k t => by rw [List.mem_filter, h.2, hg]⟩
theorem Ls.cut {f : K → Option Int} {m : List (K × Int)} (h : Ls f m) (k : K) : Ls (del f k) (m.filter fun x => x.1 ≠ k) := h.filter _ _ fun k' t => by rw [del_some]; simp [And.comm]
/-- two rows of timers with no name in both -/
theorem Ls.join {f g e : K → Option Int} {m m' : List (K × Int)} (h : Ls f m) (h' : Ls g m') (hd : ∀ k t, f k = some t → g k = none) (he : ∀ k t, e k = some t ↔ f k = some t ∨ g k = some t) : Ls e (m ++ m') := by
  refine ⟨?_, fun k t => by rw [List.mem_append, h.2, h'.2, he]⟩
  rw [List.map_append, List.nodup_append]
  refine ⟨h.1, h'.1, fun a ha b hb e => ?_⟩
  subst e
  obtain ⟨⟨k1, t1⟩, h1, rfl⟩ := List.mem_map.1 ha
  rw [h.2] at h1
  exact h'.fresh (hd _ _ h1) hb
end Go.Proofs.YtcodjknhnhdkfaaGreatDoor.Wh
namespace Go.Proofs.YtcodjknhnhdkfaaGreatDoor.Wh
open Go.RowKit Go.Lib Go.Sort Go.Maps Go.ChangeMaps Go.MapKept Hp
set_option linter.unusedVariables false
set_option linter.unusedSectionVars false

def ek (k : K) : Value := .string ⟨k.toArray⟩
def kl (k : K) : Lit := .string k
def wk (k : K) : Prop := k.length ≤ maxLen
def er (t : Int) : Value := .int .i64 t
theorem key_of (k : K) (hk : wk k) : keyOf Tryz.prog 9 (ek k) = some (kl k) := Hp.keyOf_str Tryz.underlying9 hk
theorem kindOf {t : TypeId} (ht : Tryz.prog.underlying t = some (.map 9 2)) : Kind Tryz.prog t 9 2 .i64 ek kl wk where
  map := ht
  elem := Tryz.underlying2
  zero w := by go_simp
  keyed := Maps.string_keyed Tryz.underlying9
  key := key_of
  inj k k' h := by simpa [kl] using h
theorem kindA : Kind Tryz.prog 94 9 2 .i64 ek kl wk := kindOf Tryz.underlying94
theorem kindS : Kind Tryz.prog 95 9 2 .i64 ek kl wk := kindOf Tryz.underlying95
abbrev Mq (w : World) (b n : Nat) (f : K → Option Int) : Prop := Mp Tryz.prog 9 2 .i64 kl wk w b n f
theorem wf_tk {t : Int} (h : Tk t) : (Lit.int .i64 t).wf = true := by
  have h1 := h.1
  have h2 := h.2
  unfold MT at h2
  simp [Lit.wf, IntKind.min, IntKind.max, IntKind.signed, IntKind.bits]; omega
/-- all cells of timers, in a row -/
def cs : List (K × Int) → List Value
  | [] => []
  | x :: l => ek x.1 :: er x.2 :: cs l
theorem cs_len : ∀ l : List (K × Int), (cs l).length = l.length * 2
  | [] => rfl
  | x :: l => by simp [cs, cs_len l]; omega
theorem cs_app : ∀ l m : List (K × Int), cs (l ++ m) = cs l ++ cs m
  | [], m => rfl
  | x :: l, m => by simp [cs, cs_app l m]
theorem el_zero (x : K × Int) (l : List (K × Int)) : el (x :: l) 0 = x := rfl
theorem el_succ (x : K × Int) (l : List (K × Int)) (i : Nat) : el (x :: l) (i + 1) = el l i := rfl
theorem cs_get : ∀ (l : List (K × Int)) (i : Nat), i < l.length → (cs l)[i * 2]? = some (ek (el l i).1) ∧ (cs l)[i * 2 + 1]? = some (er (el l i).2)
  | [], _, h => by simp at h
  | x :: l, 0, _ => by simp [cs, el_zero]
  | x :: l, i + 1, h => by
    have ih := cs_get l i (by simpa using h)
    rw [el_succ, show (i + 1) * 2 = i * 2 + 1 + 1 by omega]
    simpa [cs] using ih
theorem cs_one (l : List (K × Int)) : ∀ u ∈ cs l, u.oneCell' = true := by
  induction l with
  | nil => intro u h; simp [cs] at h
  | cons x l ih =>
    intro u h
    simp only [cs, List.mem_cons] at h
    rcases h with rfl | rfl | h
    · rfl
    · rfl
    · exact ih u h
theorem own_shape {w : World} {B : Nat} {e : TypeId} {k : Nat} {v : Value} {n : Nat} {xs : List Value} (h : w.ownsRow B e k v n xs) : ∃ ao cp, v = .slice ao n cp := by
  rcases h.2 with ⟨rfl, rfl⟩ | ⟨g, cap, cur, rfl, _⟩
  · exact ⟨none, 0, rfl⟩
  · exact ⟨_, cap, rfl⟩
theorem infoT : (Tryz.prog.info? 155).map (fun i => (i.zero, i.size, i.bytes)) = some (some (.agg #[.string ⟨#[]⟩, .int .i64 0]), 2, 24) := by kernel_rfl
/-- timers in a row of one's own -/
abbrev Own (w : World) (B : Nat) (v : Value) (l : List (K × Int)) : Prop := w.ownsRow B 155 2 v l.length (cs l)
/-- timers that may be read -/
def Src (w : World) (v : Value) (l : List (K × Int)) : Prop :=
  (l = [] ∧ v = .slice none 0 0) ∨ ∃ g c, v = .slice (some ⟨g, 0, none⟩) l.length c ∧ ∀ i, i < l.length → w.cell? ⟨g, i * 2, none⟩ = some (ek (el l i).1) ∧ w.cell? ⟨g, i * 2 + 1, none⟩ = some (er (el l i).2)
theorem src_own {w : World} {B : Nat} {v : Value} {l : List (K × Int)} (h : Own w B v l) : Src w v l := by
  rcases h.2 with ⟨rfl, h0⟩ | ⟨g, cap, cur, rfl, hB, h1, hf, hc, h2, h3⟩
  · exact .inl ⟨List.eq_nil_of_length_eq_zero h0, rfl⟩
  · refine .inr ⟨g, cap, rfl, fun i hi => ?_⟩
    have hg := cs_get l i hi
    rw [← h3, List.getElem?_take_of_lt (by omega), List.getElem?_take_of_lt (by omega), Array.getElem?_toList, Array.getElem?_toList] at hg
    rw [cell_of_row w g _ cur _ _ h1, cell_of_row w g _ cur _ _ h1]
    exact hg
theorem Src.shape {w : World} {v : Value} {l : List (K × Int)} (h : Src w v l) : ∃ a c, v = .slice a l.length c := by
  rcases h with ⟨rfl, rfl⟩ | ⟨g, c, rfl, _⟩
  · exact ⟨none, 0, rfl⟩
  · exact ⟨_, c, rfl⟩
theorem Src.kept {X Y : World} {v : Value} {l : List (K × Int)} (h : Src X v l) (e : ∀ a n c, v = .slice (some a) n c → Y.heap[a.block]? = X.heap[a.block]?) : Src Y v l := by
  rcases h with h | ⟨g, c, h1, h2⟩
  · exact .inl h
  · have hb := e _ _ _ h1
    have hc : ∀ k, Y.cell? ⟨g, k, none⟩ = X.cell? ⟨g, k, none⟩ := fun k => by unfold World.cell?; rw [hb]
    exact .inr ⟨g, c, h1, fun i hi => by rw [hc, hc]; exact h2 i hi⟩
theorem own_base {w : World} {B B' : Nat} {t : TypeId} {k n : Nat} {v : Value} {xs : List Value} (h : w.ownsRow B t k v n xs) (hB : B' ≤ B) : w.ownsRow B' t k v n xs :=
  ⟨h.1, h.2.imp_right fun ⟨g, cap, cur, h1, h2, h3⟩ => ⟨g, cap, cur, h1, Nat.le_trans hB h2, h3⟩⟩
theorem own_kept {w Y : World} {B : Nat} {t : TypeId} {k n : Nat} {v : Value} {xs : List Value} (h : w.ownsRow B t k v n xs) (e : ∀ b, v.ownBlock = some b → Y.heap[b]? = w.heap[b]?) : Y.ownsRow B t k v n xs := by
  rcases h with ⟨h0, h | ⟨g, cap, cur, rfl, h1, h2, h3⟩⟩
  · exact ⟨h0, .inl h⟩
  · refine ⟨h0, .inr ⟨g, cap, cur, rfl, h1, (e g ?_).trans h2, h3⟩⟩
    rfl
/-! ## maps -/
/-- what a slot's map holds -/
def Sl (w : World) (ob : Option Nat) (f : K → Option Int) : Prop := match ob with
  | none => ∀ k, f k = none
  | some b => ∃ n, Mq w b n f
theorem Sl.kept {w Y : World} {ob : Option Nat} {f : K → Option Int} (h : Sl w ob f) (e : ∀ b, ob = some b → Y.heap[b]? = w.heap[b]?) : Sl Y ob f := by
  cases ob with
  | none => exact h
  | some b => obtain ⟨n, h⟩ := h; exact ⟨n, h.kept (e b rfl)⟩
theorem Sl.lt {w : World} {b : Nat} {f : K → Option Int} (h : Sl w (some b) f) : b < w.heap.size := by obtain ⟨n, h⟩ := h; exact h.lt
/-- a range over a map under way: these were told -/
def Rgs (w : World) (ob : Option Nat) (r : Nat) (f : K → Option Int) (es : List (K × Int)) (cnt : Nat) : Prop := match ob with
  | none => w.heap[r]? = some (.mapIter none 0 #[] 0) ∧ cnt = 0 ∧ es = [] ∧ ∀ k, f k = none
  | some b => ∃ (n : Nat) (D : DataW Unit) (lf : Lit → Bool), w.ranges Tryz.prog 9 (plainElem Tryz.prog 2) b r n D lf cnt ∧ (∀ k, wk k → ∀ z, D.atKey (kl k) z = match f k with | some i => .lit (.int .i64 i) | none => z) ∧
      Ls (fun k => if lf (kl k) = true then none else f k) es
/-- how many are still to come -/
def rl (w : World) (ob : Option Nat) (r : Nat) : Nat := match ob with
  | none => 0
  | some b => w.rangeLeft b r
theorem Rgs.left_eq {w : World} {ob : Option Nat} {r : Nat} {f : K → Option Int} {es : List (K × Int)} {cnt : Nat} (h : Rgs w ob r f es cnt) : rl w ob r = cnt := by
  cases ob with
  | none => exact h.2.1.symm
  | some b => obtain ⟨n, D, lf, h, _⟩ := h; exact h.left_eq
theorem ranges_kept {w Y : World} {b r n : Nat} {P : Program} {k : TypeId} {R : Value → Option (DataW Unit × List MemPlace)} {D : DataW Unit} {left : Lit → Bool} {cnt : Nat} (h : w.ranges P k R b r n D left cnt) (e1 : Y.heap[b]? = w.heap[b]?) (e2 : Y.heap[r]? = w.heap[r]?) : Y.ranges P k R b r n D left cnt := by
  obtain ⟨es, clock, since, seen, c0, hb, F, hs, hD, hr, rest⟩ := h
  exact ⟨es, clock, since, seen, c0, e1.trans hb, F, hs, hD, e2.trans hr, rest⟩
theorem Rgs.kept {w Y : World} {ob : Option Nat} {r : Nat} {f : K → Option Int} {es : List (K × Int)} {cnt : Nat} (h : Rgs w ob r f es cnt) (e1 : ∀ b, ob = some b → Y.heap[b]? = w.heap[b]?) (e2 : Y.heap[r]? = w.heap[r]?) : Rgs Y ob r f es cnt := by
  cases ob with
  | none => exact ⟨e2.trans h.1, h.2⟩
  | some b => obtain ⟨n, D, lf, h, h2⟩ := h; exact ⟨n, D, lf, ranges_kept h (e1 b rfl) e2, h2⟩
theorem Rgs.lt {w : World} {ob : Option Nat} {r : Nat} {f : K → Option Int} {es : List (K × Int)} {cnt : Nat} (h : Rgs w ob r f es cnt) : r < w.heap.size := by
  cases ob with
  | none => exact (Array.getElem?_eq_some_iff.1 h.1).1
  | some b => obtain ⟨n, D, lf, h, _⟩ := h; exact h.lt
theorem Rgs.sub {w : World} {ob : Option Nat} {r : Nat} {f : K → Option Int} {es : List (K × Int)} {cnt : Nat} (h : Rgs w ob r f es cnt) : ∀ k t, (k, t) ∈ es → f k = some t := by
  intro k t hm
  cases ob with
  | none => obtain ⟨_, _, rfl, _⟩ := h; simp at hm
  | some b =>
    obtain ⟨n, D, lf, _, _, h⟩ := h
    rw [h.2] at hm
    dsimp only at hm
    split at hm
    · cases hm
    · exact hm
theorem Rgs.nodup {w : World} {ob : Option Nat} {r : Nat} {f : K → Option Int} {es : List (K × Int)} {cnt : Nat} (h : Rgs w ob r f es cnt) : (es.map (·.1)).Nodup := by
  cases ob with
  | none => obtain ⟨_, _, rfl, _⟩ := h; simp
  | some b => obtain ⟨n, D, lf, _, _, h⟩ := h; exact h.1
section
variable {ops : Array Oper} {rest : List Oper} {o : Oper} {a : Act} {Q : Exit → Act → World → Prop}
theorem wpList_range_sl (w : World) (hg : o.guard = none) (m : Operand) (t : TypeId) (hop : o.op = Op.range t m) (ht : Tryz.prog.underlying t = some (.map 9 2)) (ob : Option Nat) (f : K → Option Int)
    (hm : a.eval m = .map ob) (h : Sl w ob f) (hwk : ∀ k t, f k = some t → wk k)
    (hK : ∀ w' cnt, Rgs w' ob w.heap.size f [] cnt → w.grownBy w' none → w'.heap.size = w.heap.size + 1 → wpList Tryz.prog ops Q rest (a.put o.dst (.pointer (some ⟨w.heap.size, 0, none⟩))) w') :
    wpList Tryz.prog ops Q (o :: rest) a w := by
  cases ob with
  | none =>
    refine wpList_plain hg fun K' hK' => ?_
    unfold Oper.wp
    simp [execOp, hop, hm, run_range_nilMap w t _ _ ht, Result.andThen]
    exact hK' _ _ (hK _ 0 ⟨(MapKept.heap_alloc w _).1, rfl, rfl, h⟩ (World.grownBy_alloc w _ none) (by simp))
  | some b =>
    obtain ⟨n, D, hm1, hn, hD⟩ := h
    refine wpList_range_own w hg m t hop 9 2 (Maps.string_keyed Tryz.underlying9) ht _ b n D hm hm1 fun w' h1 h2 h3 => hK w' _ ⟨n, D, _, h1, hD, ?_⟩ h2 h3
    have e : (fun k => if Maps.has D (kl k) = true then none else f k) = fun _ => none := by
      funext k
      cases e : f k with
      | none => simp
      | some t => rw [has_of (kindOf ht) (hD k (hwk k t e)), e]; rfl
    rw [e]
    exact Ls.nil
theorem key_inv {key : Value} {l : Lit} (h : keyOf Tryz.prog 9 key = some l) : ∃ k, key = ek k ∧ l = kl k ∧ wk k := by
  obtain ⟨s, rfl⟩ := Maps.keyOf_string_inv Tryz.underlying9 h
  simp [keyOf, Tryz.underlying9, mapKey] at h
  refine ⟨s.data.toList, by simp [ek], ?_, ?_⟩
  · unfold kl; first | exact h.2.symm | (rw [← h.2]) | simp [← h.2]
  · unfold wk; have := h.1; first | simpa using this | (have e : s.data.toList.length = s.size := by show s.data.toList.length = s.data.size; simp
                                                        omega)
theorem wpList_next_sl (w : World) (hg : o.guard = none) (it : Operand) (hop : o.op = Op.next it false) (ob : Option Nat) (r : Nat) (f : K → Option Int) (es : List (K × Int)) (cnt : Nat)
    (hit : a.eval it = .pointer (some ⟨r, 0, none⟩)) (h : Rgs w ob r f es cnt)
    (hDone : Ls f es → wpList Tryz.prog ops Q rest (a.put o.dst (.tuple #[.bool false])) w)
    (hMore : ∀ (k : K) (t : Int) (w' : World) (cnt' : Nat), wk k → f k = some t → Rgs w' ob r f (es ++ [(k, t)]) cnt' → cnt' < cnt → w.grownBy w' (some r) → w'.heap.size = w.heap.size →
      (Instr.entry (.pointer (some ⟨r, 0, none⟩))).run Tryz.prog w' = .ok (.tuple #[ek k, er t]) w' → wpList Tryz.prog ops Q rest (a.put o.dst (.tuple #[.bool true, ek k, er t])) w') :
    wpList Tryz.prog ops Q (o :: rest) a w := by
  cases ob with
  | none =>
    obtain ⟨h1, h2, rfl, h4⟩ := h
    refine wpList_plain hg fun K' hK' => ?_
    have hrun : (Instr.next (.pointer (some ⟨r, 0, none⟩)) false o.type).run Tryz.prog w = .ok (.tuple #[.bool false]) w := by
      simp [Instr.next, getObj, Sem.run_bind, Sem.run, h1, Result.andThen, pure]
    unfold Oper.wp
    simp [execOp, hop, hit, hrun, Result.andThen]
    refine hK' _ _ (hDone ?_)
    have : f = fun _ => none := funext h4
    rw [this]; exact Ls.nil
  | some b =>
    obtain ⟨n, D, lf, h1, h2, h3⟩ := h
    refine wpList_plain hg fun K' hK' => ?_
    unfold Oper.wp
    rcases h1.next (Maps.string_keyed Tryz.underlying9) o.type with ⟨h0, hl, hrun⟩ | ⟨key, v, l, y, w', cnt', hkey, hlk, hv, hat, hrun, hrg, hlt, hgr, hsz, hen⟩
    · simp [execOp, hop, hit, hrun, Result.andThen]
      refine hK' _ _ (hDone ?_)
      have e : (fun k => if lf (kl k) = true then none else f k) = f := by
        funext k; rw [hl]; simp
      rw [e] at h3; exact h3
    · obtain ⟨k, rfl, rfl, hwk⟩ := key_inv hkey
      obtain ⟨c, rfl, rfl, _⟩ := plainElem_int_inv Tryz.underlying2 hv
      have hf : f k = some c := by
        cases e : f k with
        | none =>
          have h4 := h2 k hwk .nil
          rw [hat, e] at h4; cases h4
        | some i =>
          have h4 := h2 k hwk .nil
          rw [hat, e] at h4
          simp at h4
          rw [h4]
      simp [execOp, hop, hit, hrun, Result.andThen]
      refine hK' _ _ (hMore k c w' cnt' hwk hf ⟨n, D, _, hrg, h2, ?_⟩ hlt hgr hsz hen)
      have e : (fun k' => if (lf (kl k') && !(kl k').sameKey (kl k)) = true then none else f k') = upd (fun k => if lf (kl k) = true then none else f k) k c := by
        funext k'
        unfold upd
        by_cases e : k' = k
        · subst e
          rw [if_pos rfl, WideAt.sameKey_self ((Maps.string_keyed Tryz.underlying9).key hkey)]
          simp [hf]
        · rw [if_neg e, Maps.sameKey_ne (fun e2 => e (by simpa [kl] using e2))]
          simp
      rw [e]
      exact h3.put (by simp [hlk]) c
end
theorem len_sub {α : Type} : ∀ (a b : List α), a.Nodup → (∀ x ∈ a, x ∈ b) → a.length ≤ b.length
  | [], b, _, _ => Nat.zero_le _
  | x :: a, b, hn, hs => by
    obtain ⟨s, t, rfl⟩ := List.append_of_mem (hs x (by simp))
    have hn' := List.nodup_cons.1 hn
    have := len_sub a (s ++ t) hn'.2 fun y hy => by
      have h1 := hs y (by simp [hy])
      rw [List.mem_append, List.mem_cons] at h1
      rw [List.mem_append]
      rcases h1 with h1 | rfl | h1
      · exact .inl h1
      · exact absurd hy hn'.1
      · exact .inr h1
    simp at this ⊢
    omega
/-- a map has no more entries than there are timers -/
theorem mq_le {w : World} {b m : Nat} {g f : K → Option Int} {l : List (K × Int)} (h : Mq w b m g) (hs : ∀ k t, g k = some t → f k = some t) (hl : Ls f l) : m ≤ l.length := by
  obtain ⟨D, ⟨es, clock, hb, F, hsz, rfl⟩, hn, hD⟩ := h
  have e1 : m = es.toList.length := by rw [← hn]; simp [Maps.size, length_sorted]
  have hnd : (es.toList.map (·.key)).Nodup := F.stamped.2.2
  have := len_sub (es.toList.map (·.key)) (l.map fun x => ek x.1) hnd fun v hv => by
    obtain ⟨x, hx, rfl⟩ := List.mem_map.1 hv
    obtain ⟨y, hy⟩ := F.reads x hx
    obtain ⟨k, hk, hk2, hwk⟩ := key_inv (Go.WideElems.rd_key hy)
    have hrg := Go.WideElems.rg_of hy
    have hhas : Maps.has (DataW.map ((es.toList.map (Go.WideElems.rg Tryz.prog 9 (plainElem Tryz.prog 2))).foldr DataW.insert [])) (kl k) = true :=
      List.any_eq_true.2 ⟨_, mem_sorted.2 (List.mem_map.2 ⟨x, hx, rfl⟩), by rw [hrg, hk2]; exact WideAt.sameKey_self ((Maps.string_keyed Tryz.underlying9).key (key_of k hwk))⟩
    rw [has_of kindA (hD k hwk)] at hhas
    obtain ⟨t, ht⟩ := Option.isSome_iff_exists.1 hhas
    exact List.mem_map.2 ⟨(k, t), (hl.2 k t).2 (hs k t ht), hk.symm⟩
  simp at this
  simp at e1
  omega
/-- 'clear' of a slot's map -/
theorem run_clear {w : World} {ob : Option Nat} {f : K → Option Int} (h : Sl w ob f) (ty : TypeId) :
    ∃ w', (Builtin.clear_ #[95] ty #[.map ob]).run Tryz.prog w = .ok (.tuple #[]) w' ∧ Sl w' ob (fun _ => none) ∧ w.grownBy w' ob ∧ w'.heap.size = w.heap.size := by
  cases ob with
  | none =>
    refine ⟨w, ?_, fun _ => rfl, ⟨rfl, rfl, rfl, Nat.le_refl _, fun _ _ _ => rfl⟩, rfl⟩
    simp [Builtin.clear_, run_underlying Tryz.underlying95, Result.andThen]
  | some b =>
    obtain ⟨n, hm⟩ := h
    obtain ⟨es, clock, hb⟩ := hm.at
    refine ⟨ChangeMaps.setBlock w b (.map #[] clock), ?_, ⟨0, .map [], ⟨#[], clock, heap_setBlock_same hb _, ⟨Nat.zero_le _, MapKept.stamped_empty clock, fun x hx => by simp at hx⟩, Nat.le_refl _, rfl⟩, rfl, fun _ _ _ => rfl⟩, ⟨rfl, rfl, rfl, by simp [ChangeMaps.setBlock], fun i _ hi => heap_setBlock_other hb _ (fun e => hi (by rw [e]))⟩, by simp [ChangeMaps.setBlock]⟩
    simp [Builtin.clear_, run_underlying Tryz.underlying95, MapKept.run_getObj_map hb, MapKept.run_setObj_map _ hb, Result.andThen, ChangeMaps.setBlock]
end Go.Proofs.YtcodjknhnhdkfaaGreatDoor.Wh
namespace Go.Proofs.YtcodjknhnhdkfaaGreatDoor.Wh
open Go.RowKit Go.Lib Go.Sort Go.Maps Go.ChangeMaps Go.MapKept Hp
set_option linter.unusedVariables false
set_option linter.unusedSectionVars false

/-- a wheel at block wb: f are its timers' deadlines, h those that stand in a slot; all blocks of S its own -/
structure Wq (S : Nat → Prop) (w : World) (wb ab : Nat) (sv : Nat → Option Nat) (now : Int) (most n : Nat) (f h : K → Option Int) : Prop where
  obj : ∃ cur, w.heap[wb]? = some (.cells cur 99 (0, 0)) ∧ cur.size = 452 ∧ cur[0]? = some (.int .i64 now) ∧ cur[1]? = some (.int .i64 ((most : Nat) : Int)) ∧ cur[2]? = some (.map (some ab)) ∧ ∀ s, s < 449 → cur[3 + s]? = some (.map (sv s))
  at' : Mq w ab n f
  slot : ∀ s, s < 449 → Sl w (sv s) (gs now h s)
  dist : ∀ s s' b, s < 449 → s' < 449 → sv s = some b → sv s' = some b → s = s'
  apart : ∀ s b, s < 449 → sv s = some b → b ≠ ab
  ownW : S wb
  ownA : S ab
  ownS : ∀ s b, s < 449 → sv s = some b → S b
  size : ∀ k, S k → k < w.heap.size
  okf : ∀ k t, f k = some t → wk k ∧ Tk t
  sub : ∀ k t, h k = some t → f k = some t
  tick : Tk now
  cnt : ∃ l, Ls f l ∧ l.length = n
section
variable {S : Nat → Prop} {w : World} {wb ab : Nat} {sv : Nat → Option Nat} {now : Int} {most n : Nat} {f h : K → Option Int}
theorem Wq.kept {Y : World} (q : Wq S w wb ab sv now most n f h) (hs : w.heap.size ≤ Y.heap.size) (e : ∀ k, S k → Y.heap[k]? = w.heap[k]?) : Wq S Y wb ab sv now most n f h where
  obj := by obtain ⟨cur, h1, h2⟩ := q.obj; exact ⟨cur, (e wb q.ownW).trans h1, h2⟩
  at' := q.at'.kept (e ab q.ownA)
  slot s hs := (q.slot s hs).kept fun b hb => e b (q.ownS s b hs hb)
  dist := q.dist
  apart := q.apart
  ownW := q.ownW
  ownA := q.ownA
  ownS := q.ownS
  size k hk := Nat.lt_of_lt_of_le (q.size k hk) hs
  okf := q.okf
  sub := q.sub
  tick := q.tick
  cnt := q.cnt
theorem Wq.fr {S' : Nat → Prop} {Y : World} (q : Wq S w wb ab sv now most n f h) (e : Fr S' w Y) (hd : ∀ k, S k → ¬ S' k) : Wq S Y wb ab sv now most n f h :=
  q.kept e.size fun k hk => e.block k (q.size k hk) (hd k hk)
theorem Wq.below {Y : World} (q : Wq S w wb ab sv now most n f h) (e : Below w.heap.size w Y) : Wq S Y wb ab sv now most n f h :=
  q.kept e.size fun k hk => e.block k (q.size k hk)
theorem Wq.cell (q : Wq S w wb ab sv now most n f h) : w.cell? ⟨wb, 0, none⟩ = some (.int .i64 now) ∧ w.cell? ⟨wb, 1, none⟩ = some (.int .i64 ((most : Nat) : Int)) ∧ w.cell? ⟨wb, 2, none⟩ = some (.map (some ab)) ∧ ∀ s, s < 449 → w.cell? ⟨wb, 3 + s, none⟩ = some (.map (sv s)) := by
  obtain ⟨cur, h1, h2, h3, h4, h5, h6⟩ := q.obj
  exact ⟨(cell_of_row w wb 0 _ _ _ h1).trans h3, (cell_of_row w wb 1 _ _ _ h1).trans h4, (cell_of_row w wb 2 _ _ _ h1).trans h5, fun s hs => (cell_of_row w wb (3 + s) _ _ _ h1).trans (h6 s hs)⟩
theorem Wq.frozen (q : Wq S w wb ab sv now most n f h) (j : Nat) : w.frozen? ⟨wb, j, none⟩ = false := by
  obtain ⟨cur, h1, _⟩ := q.obj
  simp [World.frozen?, h1]
theorem Wq.wb_ne_map (q : Wq S w wb ab sv now most n f h) {b m : Nat} {g : K → Option Int} (hm : Mq w b m g) : b ≠ wb := by
  rintro rfl
  obtain ⟨cur, h1, _⟩ := q.obj
  obtain ⟨es, clock, h2⟩ := hm.at
  rw [h1] at h2; cases h2
theorem Wq.ab_ne (q : Wq S w wb ab sv now most n f h) : ab ≠ wb := q.wb_ne_map q.at'
theorem Wq.slot_some (q : Wq S w wb ab sv now most n f h) {s b : Nat} (hs : s < 449) (hb : sv s = some b) : ∃ m, Mq w b m (gs now h s) := by
  have := q.slot s hs
  rw [hb] at this; exact this
theorem Wq.sb_ne (q : Wq S w wb ab sv now most n f h) {s b : Nat} (hs : s < 449) (hb : sv s = some b) : b ≠ wb := by
  obtain ⟨m, hm⟩ := q.slot_some hs hb
  exact q.wb_ne_map hm
theorem Wq.okh (q : Wq S w wb ab sv now most n f h) {k : K} {t : Int} (e : h k = some t) : wk k ∧ Tk t := q.okf k t (q.sub k t e)
theorem Wq.lt_pc (q : Wq S w wb ab sv now most n f h) {t : Int} (ht : Tk t) : pc now t < 449 := pc_lt q.tick ht
theorem gs_wk (q : Wq S w wb ab sv now most n f h) {s : Nat} {k : K} {t : Int} (e : gs now h s k = some t) : wk k := (q.okh (gs_some.1 e).1).1
/-- the map at turns into another one -/
theorem Wq.setAt {Y : World} {n' : Nat} {f' : K → Option Int} (q : Wq S w wb ab sv now most n f h) (hm : Mq Y ab n' f') (hg : w.grownBy Y (some ab)) (ok : ∀ k t, f' k = some t → wk k ∧ Tk t) (sb : ∀ k t, h k = some t → f' k = some t) (hc : ∃ l, Ls f' l ∧ l.length = n') : Wq S Y wb ab sv now most n' f' h where
  obj := by obtain ⟨cur, h1, h2⟩ := q.obj; exact ⟨cur, (hg.block wb (q.size wb q.ownW) (fun e => q.ab_ne (Option.some.inj e).symm)).trans h1, h2⟩
  at' := hm
  slot s hs := (q.slot s hs).kept fun b hb => hg.block b (q.size b (q.ownS s b hs hb)) (fun e => q.apart s b hs hb (Option.some.inj e))
  dist := q.dist
  apart := q.apart
  ownW := q.ownW
  ownA := q.ownA
  ownS := q.ownS
  size k hk := Nat.lt_of_lt_of_le (q.size k hk) hg.size
  okf := ok
  sub := sb
  tick := q.tick
  cnt := hc
/-- a slot's map turns into another one -/
theorem Wq.setSlot {Y : World} {s b m : Nat} {h' : K → Option Int} (q : Wq S w wb ab sv now most n f h) (hs : s < 449) (hb : sv s = some b) (hm : Mq Y b m (gs now h' s)) (hg : w.grownBy Y (some b)) (oth : ∀ s', s' < 449 → s' ≠ s → gs now h' s' = gs now h s')
    (sb : ∀ k t, h' k = some t → f k = some t) : Wq S Y wb ab sv now most n f h' where
  obj := by obtain ⟨cur, h1, h2⟩ := q.obj; exact ⟨cur, (hg.block wb (q.size wb q.ownW) (fun e => q.sb_ne hs hb (Option.some.inj e).symm)).trans h1, h2⟩
  at' := q.at'.kept (hg.block ab (q.size ab q.ownA) (fun e => q.apart s b hs hb (Option.some.inj e).symm))
  slot s' hs' := by
    by_cases e : s' = s
    · subst e; rw [hb]; exact ⟨m, hm⟩
    · rw [oth s' hs' e]
      exact (q.slot s' hs').kept fun b' hb' => hg.block b' (q.size b' (q.ownS s' b' hs' hb')) (fun e2 => e (q.dist s' s b hs' hs (by rw [hb', Option.some.inj e2]) hb))
  dist := q.dist
  apart := q.apart
  ownW := q.ownW
  ownA := q.ownA
  ownS := q.ownS
  size k hk := Nat.lt_of_lt_of_le (q.size k hk) hg.size
  okf := q.okf
  sub := sb
  tick := q.tick
  cnt := q.cnt
/-- a slot that had no map gets an empty one -/
theorem Wq.make (q : Wq S w wb ab sv now most n f h) {s : Nat} (hs : s < 449) (hn : sv s = none) {Y : World} (hY : Y = (w.setCell ⟨wb, 3 + s, none⟩ (.map (some w.heap.size))).alloc (.map #[] 0)) :
    Wq (fun x => S x ∨ x = w.heap.size) Y wb ab (fun i => if i = s then some w.heap.size else sv i) now most n f h ∧ Fr S w Y := by
  obtain ⟨cur, h1, h2, h3, h4, h5, h6⟩ := q.obj
  have zw := q.size wb q.ownW
  have zZ : (w.setCell ⟨wb, 3 + s, none⟩ (.map (some w.heap.size))).heap.size = w.heap.size := by simp
  have a1 : ∀ k, k < w.heap.size → Y.heap[k]? = (w.setCell ⟨wb, 3 + s, none⟩ (.map (some w.heap.size))).heap[k]? := fun k hk => by rw [hY]; exact (MapKept.heap_alloc _ _).2 k (by rw [zZ]; exact hk)
  have o1 : Y.heap[wb]? = some (.cells (cur.set! (3 + s) (.map (some w.heap.size))) 99 (0, 0)) := by rw [a1 wb zw, Lib.heap_setCell_same h1]; simp
  have oo : ∀ k, k < w.heap.size → k ≠ wb → Y.heap[k]? = w.heap[k]? := fun k hk hne => (a1 k hk).trans (heap_setCell_other _ _ _ _ hne)
  have zY : Y.heap.size = w.heap.size + 1 := by rw [hY]; simp
  have on : Y.heap[w.heap.size]? = some (.map #[] 0) := by
    have := (MapKept.heap_alloc (w.setCell ⟨wb, 3 + s, none⟩ (.map (some w.heap.size))) (.map #[] 0)).1
    rw [zZ] at this
    rw [hY]; exact this
  have hz : ∀ i b, i < 449 → sv i = some b → b < w.heap.size := fun i b hi hb => q.size b (q.ownS i b hi hb)
  have hgs : gs now h s = fun _ => none := by
    have := q.slot s hs
    rw [hn] at this
    exact funext this
  refine ⟨⟨⟨_, o1, by simpa using h2, ?_, ?_, ?_, fun i hi => ?_⟩, q.at'.kept (oo ab (q.size ab q.ownA) q.ab_ne), fun i hi => ?_, fun i i' b hi hi' e e' => ?_, fun i b hi e => ?_, .inl q.ownW, .inl q.ownA, fun i b hi e => ?_, fun k hk => ?_, q.okf, q.sub, q.tick, q.cnt⟩, ?_⟩
  · simp only [Array.set!_eq_setIfInBounds]; rw [Array.getElem?_setIfInBounds_ne (by omega)]; exact h3
  · simp only [Array.set!_eq_setIfInBounds]; rw [Array.getElem?_setIfInBounds_ne (by omega)]; exact h4
  · simp only [Array.set!_eq_setIfInBounds]; rw [Array.getElem?_setIfInBounds_ne (by omega)]; exact h5
  · simp only [Array.set!_eq_setIfInBounds]
    by_cases e : i = s
    · subst e; rw [if_pos rfl, Array.getElem?_setIfInBounds_self_of_lt (by omega)]
    · rw [if_neg e, Array.getElem?_setIfInBounds_ne (by omega)]; exact h6 i hi
  · by_cases e : i = s
    · subst e
      rw [if_pos rfl, hgs]
      exact ⟨0, .map [], ⟨#[], 0, on, ⟨Nat.zero_le _, MapKept.stamped_empty 0, fun x hx => by simp at hx⟩, Nat.le_refl _, rfl⟩, rfl, fun _ _ _ => rfl⟩
    · rw [if_neg e]
      exact (q.slot i hi).kept fun b hb => oo b (hz i b hi hb) (q.sb_ne hi hb)
  · by_cases e1 : i = s <;> by_cases e2 : i' = s
    · rw [e1, e2]
    · rw [if_pos e1] at e; rw [if_neg e2] at e'
      have := hz i' b hi' e'; have := Option.some.inj e; omega
    · rw [if_neg e1] at e; rw [if_pos e2] at e'
      have := hz i b hi e; have := Option.some.inj e'; omega
    · rw [if_neg e1] at e; rw [if_neg e2] at e'
      exact q.dist i i' b hi hi' e e'
  · by_cases e1 : i = s
    · rw [if_pos e1] at e
      have := Option.some.inj e; have := q.size ab q.ownA; omega
    · rw [if_neg e1] at e; exact q.apart i b hi e
  · by_cases e1 : i = s
    · rw [if_pos e1] at e; exact .inr (Option.some.inj e).symm
    · rw [if_neg e1] at e; exact .inl (q.ownS i b hi e)
  · rcases hk with hk | hk
    · have := q.size k hk; omega
    · omega
  · exact ⟨by rw [hY]; rfl, by rw [hY]; rfl, by rw [hY]; rfl, by omega, fun k hk hn => oo k hk (fun e => hn (by rw [e]; exact q.ownW))⟩
/-- up to where it was turned -/
theorem Wq.setNow (q : Wq S w wb ab sv now most n f h) {tO : Int} (ht : Tk tO) (hp : ∀ k t, h k = some t → pc tO t = pc now t) {Y : World} (hY : Y = w.setCell ⟨wb, 0, none⟩ (.int .i64 tO)) :
    Wq S Y wb ab sv tO most n f h ∧ Fr S w Y := by
  obtain ⟨cur, h1, h2, h3, h4, h5, h6⟩ := q.obj
  have o1 : Y.heap[wb]? = some (.cells (cur.set! 0 (.int .i64 tO)) 99 (0, 0)) := by rw [hY, Lib.heap_setCell_same h1]; simp
  have ot : ∀ k, k ≠ wb → Y.heap[k]? = w.heap[k]? := fun k hk => by rw [hY]; exact heap_setCell_other _ _ _ _ hk
  have zY : Y.heap.size = w.heap.size := by rw [hY]; simp
  have hgs : ∀ s, gs tO h s = gs now h s := fun s => ext_some fun k t => by
    rw [gs_some, gs_some]
    constructor
    · rintro ⟨e1, e2⟩; exact ⟨e1, by rw [← hp k t e1]; exact e2⟩
    · rintro ⟨e1, e2⟩; exact ⟨e1, by rw [hp k t e1]; exact e2⟩
  refine ⟨⟨⟨_, o1, by simpa using h2, ?_, ?_, ?_, fun i hi => ?_⟩, q.at'.kept (ot ab q.ab_ne), fun i hi => ?_, q.dist, q.apart, q.ownW, q.ownA, q.ownS, fun k hk => by rw [zY]; exact q.size k hk, q.okf, q.sub, ht, q.cnt⟩, ⟨by rw [hY]; rfl, by rw [hY]; rfl, by rw [hY]; rfl, by omega, fun k hk hn => ot k (fun e => hn (by rw [e]; exact q.ownW))⟩⟩
  · simp only [Array.set!_eq_setIfInBounds]; rw [Array.getElem?_setIfInBounds_self_of_lt (by omega)]
  · simp only [Array.set!_eq_setIfInBounds]; rw [Array.getElem?_setIfInBounds_ne (by omega)]; exact h4
  · simp only [Array.set!_eq_setIfInBounds]; rw [Array.getElem?_setIfInBounds_ne (by omega)]; exact h5
  · simp only [Array.set!_eq_setIfInBounds]; rw [Array.getElem?_setIfInBounds_ne (by omega)]; exact h6 i hi
  · rw [hgs]
    exact (q.slot i hi).kept fun b hb => ot b (q.sb_ne hi hb)
/-- what is in a slot with one more -/
theorem gs_put {k : K} {t : Int} (hk : h k = none) (s : Nat) : gs now (upd h k t) s = if s = pc now t then upd (gs now h s) k t else gs now h s := by
  refine ext_some fun k' t' => ?_
  split
  · rename_i e
    rw [gs_some, upd_some, upd_some, gs_some]
    constructor
    · rintro ⟨⟨h1, h2⟩ | ⟨h1, h2⟩, h3⟩
      · exact .inl ⟨h1, h2⟩
      · exact .inr ⟨h1, h2, h3⟩
    · rintro (⟨h1, h2⟩ | ⟨h1, h2, h3⟩)
      · exact ⟨.inl ⟨h1, h2⟩, by rw [← h2, e]⟩
      · exact ⟨.inr ⟨h1, h2⟩, h3⟩
  · rename_i e
    rw [gs_some, upd_some, gs_some]
    constructor
    · rintro ⟨⟨h1, h2⟩ | ⟨h1, h2⟩, h3⟩
      · exact absurd (by rw [← h3, h2]) e
      · exact ⟨h2, h3⟩
    · rintro ⟨h2, h3⟩
      exact ⟨.inr ⟨fun e2 => (by rw [e2, hk] at h2; cases h2), h2⟩, h3⟩
theorem gs_del {k : K} {t : Int} (hk : h k = some t) (s : Nat) : gs now (del h k) s = if s = pc now t then del (gs now h s) k else gs now h s := by
  refine ext_some fun k' t' => ?_
  split
  · rename_i e
    rw [gs_some, del_some, del_some, gs_some]
    exact and_assoc
  · rename_i e
    rw [gs_some, del_some, gs_some]
    constructor
    · rintro ⟨⟨h1, h2⟩, h3⟩
      exact ⟨h2, h3⟩
    · rintro ⟨h2, h3⟩
      exact ⟨⟨fun e2 => by rw [e2, hk] at h2; cases h2; exact e h3.symm, h2⟩, h3⟩
theorem gs_fr {p s : Nat} : gs now (frm now h p) s = if p ≤ s then gs now h s else fun _ => none := by
  refine ext_some fun k' t' => ?_
  rw [gs_some, frm_some]
  split
  · rw [gs_some]
    constructor
    · rintro ⟨⟨h1, h2⟩, h3⟩; exact ⟨h1, h3⟩
    · rintro ⟨h1, h3⟩; exact ⟨⟨h1, by omega⟩, h3⟩
  · constructor
    · rintro ⟨⟨h1, h2⟩, h3⟩; omega
    · intro h; cases h
/-- a slot is emptied: what stood from it on stands from the next one on -/
theorem Wq.clear (h0 : K → Option Int) {s : Nat} (q : Wq S w wb ab sv now most n f (frm now h0 s)) (hs : s < 449) {Y : World} (hm : Sl Y (sv s) (fun _ => none)) (hg : w.grownBy Y (sv s)) : Wq S Y wb ab sv now most n f (frm now h0 (s + 1)) := by
  have hsub : ∀ k t, frm now h0 (s + 1) k = some t → f k = some t := fun k t e => q.sub k t (by rw [frm_some] at e ⊢; exact ⟨e.1, by omega⟩)
  have hgs : ∀ i, i ≠ s → gs now (frm now h0 (s + 1)) i = gs now (frm now h0 s) i := fun i hi => by
    rw [gs_fr, gs_fr]
    by_cases e : s ≤ i
    · rw [if_pos e, if_pos (by omega)]
    · rw [if_neg e, if_neg (by omega)]
  have hgs0 : gs now (frm now h0 (s + 1)) s = fun _ => none := by rw [gs_fr, if_neg (by omega)]
  cases hb : sv s with
  | some b =>
    rw [hb] at hm hg
    obtain ⟨m, hm⟩ := hm
    exact q.setSlot hs hb (m := m) (by rw [hgs0]; exact hm) hg (fun i _ hi => hgs i hi) hsub
  | none =>
    rw [hb] at hg
    have q' := q.kept (Y := Y) hg.size fun k hk => hg.block k (q.size k hk) (by simp)
    refine { q' with slot := fun i hi => ?_, sub := hsub }
    by_cases e : i = s
    · subst e; rw [hb, hgs0]; exact fun _ => rfl
    · rw [hgs i e]; exact q'.slot i hi
end
/-- a wheel that has m -/
def Wv (S : Nat → Prop) (w : World) (wb : Nat) (now : Int) (most : Nat) (m : List (K × Int)) : Prop :=
  ∃ ab sv f, Wq S w wb ab sv now most m.length f f ∧ Ls f m
theorem Wv.kept {S : Nat → Prop} {w Y : World} {wb : Nat} {now : Int} {most : Nat} {m : List (K × Int)} (q : Wv S w wb now most m) (hs : w.heap.size ≤ Y.heap.size) (e : ∀ k, S k → Y.heap[k]? = w.heap[k]?) : Wv S Y wb now most m := by
  obtain ⟨ab, sv, f, q, h⟩ := q
  exact ⟨ab, sv, f, q.kept hs e, h⟩
theorem Wv.size {S : Nat → Prop} {w : World} {wb : Nat} {now : Int} {most : Nat} {m : List (K × Int)} (q : Wv S w wb now most m) : ∀ k, S k → k < w.heap.size := by
  obtain ⟨ab, sv, f, q, h⟩ := q
  exact q.size
theorem Wv.fr {S S' : Nat → Prop} {w Y : World} {wb : Nat} {now : Int} {most : Nat} {m : List (K × Int)} (q : Wv S w wb now most m) (e : Fr S' w Y) (hd : ∀ k, S k → ¬ S' k) : Wv S Y wb now most m :=
  q.kept e.size fun k hk => e.block k (q.size k hk) (hd k hk)
theorem Wv.perm {S : Nat → Prop} {w : World} {wb : Nat} {now : Int} {most : Nat} {m m' : List (K × Int)} (q : Wv S w wb now most m) (e : m'.Perm m) : Wv S w wb now most m' := by
  obtain ⟨ab, sv, f, q, h⟩ := q
  exact ⟨ab, sv, f, by rw [e.length_eq]; exact q, h.perm e⟩
end Go.Proofs.YtcodjknhnhdkfaaGreatDoor.Wh
