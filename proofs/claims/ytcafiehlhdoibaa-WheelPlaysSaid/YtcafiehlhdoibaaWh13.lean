
/- wheels: Next -/
import Derived.Test.YtcafiehlhdoibaaWh12
namespace Go.Proofs.Ytcafiehlhdoibaa.Wh
open Go.RowKit Go.Lib Go.Sort Go.Maps Hp Ht
set_option linter.unusedVariables false
set_option maxRecDepth 20000
theorem mq_empty {w : World} {b m : Nat} {g : K → Option Int} (h : Mq w b m g) (hwk : ∀ k t, g k = some t → wk k) : (m = 0 → ∀ k, g k = none) ∧ (0 < m → ∃ k t, g k = some t) := by
  obtain ⟨D, ⟨es, clock, hb, F, hsz, rfl⟩, hn, hD⟩ := h
  have e1 : m = es.toList.length := by rw [← hn]; simp [Maps.size, length_sorted]
  refine ⟨fun h0 k => ?_, fun h0 => ?_⟩
  · have he : es.toList = [] := List.eq_nil_of_length_eq_zero (by omega)
    cases e : g k with
    | none => rfl
    | some t =>
      have hh := hD k (hwk k t e)
      have h2 := has_of kindA hh
      rw [e, he] at h2
      simp [Maps.has] at h2
  · obtain ⟨x, hx⟩ : ∃ x, x ∈ es.toList := by
      cases e : es.toList with
      | nil => rw [e] at e1; simp at e1; omega
      | cons x l => exact ⟨x, by simp⟩
    obtain ⟨y, hy⟩ := F.reads x hx
    obtain ⟨k, hk, hk2, hwk⟩ := key_inv (Go.WideElems.rd_key hy)
    have hrg := Go.WideElems.rg_of hy
    have hhas : Maps.has (DataW.map ((es.toList.map (Go.WideElems.rg Try.prog 9 (plainElem Try.prog 2))).foldr DataW.insert [])) (kl k) = true :=
      List.any_eq_true.2 ⟨_, mem_sorted.2 (List.mem_map.2 ⟨x, hx, rfl⟩), by rw [hrg, hk2]; exact WideAt.sameKey_self ((Maps.string_keyed Try.underlying9).key (key_of k hwk))⟩
    rw [has_of kindA (hD k hwk)] at hhas
    obtain ⟨t, ht⟩ := Option.isSome_iff_exists.1 hhas
    exact ⟨k, t, ht⟩
theorem sl_len {w : World} {ob : Option Nat} {g : K → Option Int} (h : Sl w ob g) (hwk : ∀ k t, g k = some t → wk k) : ∃ c : Nat, (∀ ty, (Builtin.len_ #[63] ty #[.map ob]).run Try.prog w = .ok (.int .i64 ((c : Nat) : Int)) w) ∧ (c = 0 → ∀ k, g k = none) ∧ (0 < c → ∃ k t, g k = some t) := by
  cases ob with
  | none =>
    refine ⟨0, fun ty => ?_, fun _ => h, fun h0 => by omega⟩
    simp [Builtin.len_, run_underlying Try.underlying63, Result.andThen, goInt]
  | some b =>
    obtain ⟨n, hm⟩ := h
    have := mq_empty hm hwk
    exact ⟨n, fun ty => hm.len kindS rfl ty, this.1, this.2⟩
set_option maxHeartbeats 1000000 in
theorem least_any (w : World) (ob : Option Nat) (g : K → Option Int) (h : Sl w ob g) (hok : ∀ k t, g k = some t → wk k ∧ Tk t) (hne : ∃ k t, g k = some t) :
    Calls Try.prog 28 #[.map ob] w fun e w' => ∃ v, e = .returned (.int .i64 v) ∧ (∃ k, g k = some v) ∧ (∀ k t, g k = some t → v ≤ t) ∧ Below w.heap.size w w' := by
  have HH := Lib.hid (And.intro h (And.intro hok hne))
  have hwk := fun k t e => (hok k t e).1
  clear hok hne
  go_enter Try.func28, Try.ntmps28
  go_wp2_with (first
    | (at_range; refine wpList_range_sl _ rfl _ _ rfl Try.underlying63 ob g rfl h hwk ?_; intro w0 cnt0 hrg0 hg0 hs0)
    | go_in)
  go_frame
  have st1 : Below w.heap.size w w0 := ⟨hg0.os, hg0.tape, hg0.output, hg0.size, fun k hk => hg0.block k hk (by simp)⟩
  have HX := Lib.hid (And.intro hrg0 st1)
  clear hrg0 hg0 hs0 st1
  go_loopw [3] (fun lv wr => ∃ es cnt v, lv = .int .i64 v ∧ Rgs wr ob w.heap.size g es cnt ∧ Below w.heap.size w wr ∧ (∀ p ∈ es, v ≤ p.2) ∧ (v = MT ∨ ∃ k, (k, v) ∈ es) ∧ v ≤ MT) (fun _ wr => rl wr ob w.heap.size)
  case atStart => exact ⟨[], cnt0, MT, rfl, HX.out.1, HX.out.2, by simp, .inl rfl, Int.le_refl _⟩
  case round =>
    obtain ⟨es, cnt, v, hv, hrg, hb, hmin, hin, hmt⟩ := hrel
    subst hv
    have hrl := hrg.left_eq
    have HL := Lib.hid hrl
    have HR := Lib.hid (And.intro hb (And.intro hmin (And.intro hin hmt)))
    clear hb hmin hin hmt hrl
    go_wp2_with (first
      | (at_next; refine wpList_next_sl _ rfl _ rfl ob w.heap.size g es cnt rfl hrg ?_ ?_)
      | go_in)
    · intro hls
      go_wp2_with fail
      go_ret
      obtain ⟨hb, hmin, hin, hmt⟩ := HR.out
      obtain ⟨_, hok, k0, t0, h0⟩ := HH.out
      refine ⟨v, by simp, ?_, fun k t e => hmin (k, t) ((hls.2 k t).2 e), hb⟩
      rcases hin with rfl | ⟨k, hk⟩
      · have h1 := hmin (k0, t0) ((hls.2 k0 t0).2 h0)
        have h2 := (hok k0 t0 h0).2.2
        simp only at h1
        have : t0 = MT := by omega
        subst this
        exact ⟨k0, h0⟩
      · exact ⟨k, (hls.2 k v).1 hk⟩
    · intro k t w1 cnt1 hwk1 hf hrg1 hlt hg1 hs1 hen
      have HW := Lib.hid (And.intro hrg1 (And.intro hlt (And.intro hg1 hf)))
      clear hrg1 hlt hg1 hs1 hwk1 hf hrg
      unfold ek er at hen
      unfold ek er
      have hfin : ∀ m, m = v ∧ v ≤ t ∨ m = t ∧ t ≤ v → ∃ es' cnt' v', (Value.int .i64 m) = .int .i64 v' ∧ Rgs w1 ob w.heap.size g es' cnt' ∧ Below w.heap.size w w1 ∧ (∀ p ∈ es', v' ≤ p.2) ∧ (v' = MT ∨ ∃ k, (k, v') ∈ es') ∧ v' ≤ MT := by
        intro m hm
        obtain ⟨hb, hmin, hin, hmt⟩ := HR.out
        obtain ⟨hrg1, hlt, hg1, hf⟩ := HW.out
        refine ⟨es ++ [(k, t)], cnt1, m, rfl, hrg1, hb.grown hg1 (Nat.le_trans (Nat.le_refl _) hb.size) (fun j hj => by cases hj; exact Nat.le_refl _), fun p hp => ?_, ?_, ?_⟩
        · rcases List.mem_append.1 hp with h1 | h1
          · have := hmin p h1; omega
          · rw [List.mem_singleton] at h1; subst h1; simp only; omega
        · rcases hm with ⟨rfl, _⟩ | ⟨rfl, _⟩
          · rcases hin with h1 | ⟨k1, h1⟩
            · exact .inl h1
            · exact .inr ⟨k1, List.mem_append_left _ h1⟩
          · exact .inr ⟨k, by simp⟩
        · omega
      have HF := Lib.hid hfin
      clear hfin
      rcases Int.le_total v t with hle | hle
      · have hmn : min v t = v := Int.min_eq_left hle
        go_wp2_with fail
        go_roundw
        case rel => exact HF.out _ (.inl ⟨rfl, hle⟩)
        case measure => rw [HW.out.1.left_eq, HL.out]; exact HW.out.2.1
      · have hmn : min v t = t := Int.min_eq_right hle
        go_wp2_with fail
        go_roundw
        case rel => exact HF.out _ (.inr ⟨rfl, hle⟩)
        case measure => rw [HW.out.1.left_eq, HL.out]; exact HW.out.2.1
section
variable {S : Nat → Prop} {w : World} {wb : Nat} {now : Int} {most : Nat} {m : List (K × Int)}
/-- what Next answers -/
def NextIs (f : K → Option Int) (v : Int) (b : Bool) : Prop := (b = false ∧ v = 0 ∧ ∀ k, f k = none) ∨ (b = true ∧ (∃ k, f k = some v) ∧ ∀ k t, f k = some t → v ≤ t)
theorem next_slot {ab : Nat} {sv : Nat → Option Nat} {n : Nat} {f : K → Option Int} (q : Wq S w wb ab sv now most n f f) {s : Nat} (hs : s < 449) (hbelow : ∀ k t, f k = some t → s ≤ pc now t) (hne : ∃ k t, gs now f s k = some t) :
    Calls Try.prog 28 #[.map (sv s)] w fun e w' => ∃ v, e = .returned (.int .i64 v) ∧ NextIs f v true ∧ Below w.heap.size w w' := by
  refine (least_any w (sv s) (gs now f s) (q.slot s hs) (fun k t e => q.okf k t (gs_some.1 e).1) hne).mono ?_
  rintro e w' ⟨v, rfl, ⟨k0, h1⟩, h2, h3⟩
  have h0 := gs_some.1 h1
  refine ⟨v, rfl, .inr ⟨rfl, ⟨k0, h0.1⟩, fun k t e => ?_⟩, h3⟩
  rcases Nat.lt_or_ge s (pc now t) with h4 | h4
  · rcases Int.lt_or_le t v with h5 | h5
    · have := pc_mono q.tick (q.okf k0 v h0.1).2 (Int.le_of_lt h5)
      omega
    · exact h5
  · exact h2 k t (gs_some.2 ⟨e, by have := hbelow k t e; omega⟩)
set_option maxHeartbeats 2000000 in
theorem next_any (hq : Wv S w wb now most m) {f : K → Option Int} (hf : Ls f m) : Calls Try.prog 14 #[.pointer (some ⟨wb, 0, none⟩)] w fun e w' => ∃ v b, e = .returned (.tuple #[.int .i64 v, .bool b]) ∧ NextIs f v b ∧ Below w.heap.size w w' := by
  obtain ⟨ab, sv, q⟩ := hq.at_ hf
  have hlow : ∀ s k, gs now f s k = none ∨ ∃ t, gs now f s k = some t := fun s k => by cases gs now f s k; exact .inl rfl; exact .inr ⟨_, rfl⟩
  have hLen := fun s (hs : s < 449) => sl_len (q.slot s hs) (fun k t e => gs_wk q e)
  have hstep : ∀ s, (∀ k t, f k = some t → s ≤ pc now t) → (∀ k, gs now f s k = none) → ∀ k t, f k = some t → s + 1 ≤ pc now t := fun s h1 h2 k t e => by
    have := h1 k t e
    rcases Nat.lt_or_ge s (pc now t) with h3 | h3
    · omega
    · have h4 := h2 k
      rw [show gs now f s k = some t from gs_some.2 ⟨e, by omega⟩] at h4
      cases h4
  have c3 := q.cell.2.2.2 0 (by omega)
  obtain ⟨c, hl, hz, hp⟩ := hLen 0 (by omega)
  have HQ := Lib.hid (And.intro q (And.intro hLen hstep))
  clear hlow hLen hq hf
  by_cases hc : 0 < c
  · have hS := next_slot q (s := 0) (by omega) (fun k t e => Nat.zero_le _) (hp hc)
    have hc2 : (0 : Int) < ((c : Nat) : Int) := by omega
    clear q hp hz hstep hc
    generalize ((c : Nat) : Int) = ci at *
    generalize sv 0 = s0 at *
    go_enter Try.func14, Try.ntmps14
    go_wp2_with fail
    refine hS.mono ?_
    rintro e w1 ⟨v, rfl, h1, h2⟩
    have HZ := Lib.hid (And.intro h1 h2)
    clear h1 h2 hS
    go_wp2_with fail
    refine bodyPost_ret (results_tmp2 rfl _ _ _) rfl ?_
    exact ⟨v, true, by simp, HZ.out.1, HZ.out.2⟩
  · have hc0 : c = 0 := by omega
    subst hc0
    have h1 := hstep 0 (fun k t e => Nat.zero_le _) (hz rfl)
    have H1 := Lib.hid h1
    clear q hp hz hstep hc h1
    generalize sv 0 = s0 at *
    go_enter Try.func14, Try.ntmps14
    go_wp2_with fail
    go_loopw [20] (fun cv wr => ∃ l : Nat, cv = .int .i64 ((l : Nat) : Int) ∧ l ≤ 7 ∧ wr = w ∧ ∀ k t, f k = some t → 1 + 64 * l ≤ pc now t) (fun cv _ => 7 - (RowKit.intOf cv).toNat)
    case atStart => exact ⟨0, rfl, by omega, rfl, H1.out⟩
    case round =>
      obtain ⟨l, hcv, hl7, hwr, hlo⟩ := hrel
      subst hcv hwr
      by_cases hlx : l < 7
      · have hlc : ((l : Nat) : Int) < 7 := by omega
        have hl0 : (0 : Int) ≤ ((l : Nat) : Int) := by omega
        obtain ⟨A, hA1, hA2, hA3⟩ := row_cells HQ.out.1 (l := l) hlx
        have HA := Lib.hid (And.intro hA1 (And.intro hA2 hA3))
        have HLo := Lib.hid hlo
        have HL := Lib.hid hlx
        clear hA1 hA2 hA3 hlo hl7
        go_wp2_with (refine wpList_load_mid rfl 64 _ rfl wb (4 + l * 64) rfl A _ HA.out.2.2 Try.underlying64 rfl (by rw [HA.out.1]; kernel_rfl) ?_)
        go_loopw [29] (fun cv wx => ∃ d : Nat, cv = .int .i64 ((d : Nat) : Int) ∧ d ≤ 64 ∧ wx = wr ∧ ∀ k t, f k = some t → 1 + 64 * l + d ≤ pc now t) (fun cv _ => 64 - (RowKit.intOf cv).toNat)
        case atStart => exact ⟨0, rfl, by omega, rfl, HLo.out⟩
        case round =>
          obtain ⟨d, hcv, hd7, hwr, hlo⟩ := hrel
          subst hcv hwr
          by_cases hdx : d < 64
          · have hdc : ((d : Nat) : Int) < 64 := by omega
            have hix := run_index_arr A HA.out.1 d hdx _ (HA.out.2.1 d hdx)
            have hs9 : 1 + 64 * l + d < 449 := by have := HL.out; omega
            obtain ⟨q, hLen, hstep⟩ := HQ.out
            obtain ⟨c, hln, hz, hp⟩ := hLen _ hs9
            by_cases hc : 0 < c
            · have hS := next_slot q hs9 hlo (hp hc)
              have hc2 : (0 : Int) < ((c : Nat) : Int) := by omega
              generalize hsv : sv (1 + 64 * l + d) = o9 at *
              clear hsv q hp hz hstep hc hLen hlo hd7
              generalize ((c : Nat) : Int) = ci at *
              go_wp2_with fail
              refine hS.mono ?_
              rintro e w1 ⟨v, rfl, h1, h2⟩
              have HZ := Lib.hid (And.intro h1 h2)
              clear h1 h2 hS
              go_wp2_with fail
              refine bodyPost_ret (results_tmp2 rfl _ _ _) rfl ?_
              exact ⟨v, true, by simp, HZ.out.1, HZ.out.2⟩
            · have hc0 : c = 0 := by omega
              subst hc0
              have h2 := hstep _ hlo (hz rfl)
              have H2 := Lib.hid (And.intro h2 hdx)
              generalize hsv : sv (1 + 64 * l + d) = o9 at *
              clear hsv q hp hz hstep hc hLen hlo hd7 h2
              go_wp2_with fail
              go_roundw
              case rel => exact ⟨d + 1, by simp, H2.out.2, trivial, H2.out.1⟩
              case measure => have := H2.out.2; simp [RowKit.intOf]; omega
          · have hde : d = 64 := by omega
            subst hde
            have H2 := Lib.hid hlo
            clear hlo hdx hd7
            go_wp2_with fail
            go_roundw
            case rel => exact ⟨l + 1, by simp, HL.out, trivial, H2.out⟩
            case measure => have := HL.out; simp [RowKit.intOf]; omega
      · have hle : l = 7 := by omega
        subst hle
        have hnone : ∀ k, f k = none := fun k => by
          cases e : f k with
          | none => rfl
          | some t =>
            have h2 := hlo k t e
            have h3 := HQ.out.1.lt_pc (HQ.out.1.okf k t e).2
            omega
        have H2 := Lib.hid hnone
        clear hnone hlo hlx hl7
        go_wp2_with fail
        refine bodyPost_ret (results_tmp2 rfl _ _ _) rfl ?_
        exact ⟨0, false, by simp, .inl ⟨rfl, rfl, H2.out⟩, Below.refl _ _⟩
end
end Go.Proofs.Ytcafiehlhdoibaa.Wh
