
/- wheels: a slot's timers taken, its least deadline; timers sorted -/
import Derived.Test.YtcafiehlhdoibaaWh5
import Derived.Test.YtcafiehlhdoibaaWhLay
import Derived.Shelf.SlSortCmp.NoneTotal
import Derived.Lib.OwnBridge
namespace Go.Proofs.Ytcafiehlhdoibaa.Wh
open Go.RowKit Go.Lib Go.Sort Go.Maps Hp Ht
set_option linter.unusedVariables false
set_option maxRecDepth 20000
/-- none is ahead of one before it -/
def Srt (l : List (K × Int)) : Prop := ∀ i j, i < j → j < l.length → ltp (el l j) (el l i) = false
def encI (x : K × Int) : List Value := [ek x.1, er x.2]
theorem ltOf_cfp : ltOf (cfp (K := K)) = ltp := by
  funext x y
  exact cfp_neg x y
theorem holds_own {w : World} {B g n cap : Nat} {l : List (K × Int)} (h : w.ownsRow B 42 2 (.slice (some ⟨g, 0, none⟩) n cap) n (cs l)) (hn : n = l.length) : HoldsK encI 2 w g 0 l.toArray := by
  subst hn
  rcases h.2 with ⟨e, _⟩ | ⟨g2, cap2, cur, e, hB, hg, hf, hc, hs, ht⟩
  · cases e
  · cases e
    intro t hlt
    rw [size_flatK] at hlt
    have hlt2 : t < l.length * 2 := by simpa using hlt
    rw [get_flatK _ _ _ _ hlt]
    have hgs := cs_get l (t / 2) (by omega)
    have hfr : w.frozen? ⟨g, 0 + t, none⟩ = false := by simp [World.frozen?, hg]
    refine ⟨?_, hfr⟩
    have hd : (l.toArray)[t / 2]! = el l (t / 2) := by
      rw [el_eq (by omega)]
      simp [getElem!_pos, show t / 2 < l.length by omega]
    rw [hd, Nat.zero_add, cell_of_row w g _ cur _ _ hg]
    have e1 : (cur.toList.take (l.length * 2))[t]? = (cs l)[t]? := by rw [ht]
    rw [List.getElem?_take_of_lt (by omega), Array.getElem?_toList] at e1
    rw [e1]
    rcases Nat.mod_two_eq_zero_or_one t with e2 | e2
    · rw [show t = t / 2 * 2 by omega, hgs.1, show t / 2 * 2 / 2 = t / 2 by omega, show t / 2 * 2 % 2 = 0 by omega]; rfl
    · rw [show t = t / 2 * 2 + 1 by omega, hgs.2, show (t / 2 * 2 + 1) / 2 = t / 2 by omega, show (t / 2 * 2 + 1) % 2 = 1 by omega]; rfl
theorem fr_sort (w : World) (g n : Nat) (d' : Array (K × Int)) (os : Array Obj) : Fr (fun x => x = g) w (sortWorldK encI 2 w g 0 n d' os) where
  os := rfl
  tape := rfl
  output := rfl
  size := by simp [sortWorldK, grow, Sort.ahead, putRowK, putRow, mapBlock]
  block k hk hn := by
    simp [sortWorldK, grow, Sort.ahead, putRowK, putRow, mapBlock, Array.getElem?_append, hk]
    rw [Array.getElem_modify, if_neg fun e => hn e.symm]
theorem sort_any (w : World) {B : Nat} {v : Value} {l : List (K × Int)} (h : Own w B v l) (hB : B ≤ w.heap.size) (hl : l.length ≤ 1000000) :
    Calls Try.prog 25 #[v, .func (.func 26) #[] #[]] w fun e w' => e = .returned (.tuple #[]) ∧ ∃ ls : List (K × Int), ls.Perm l ∧ Srt ls ∧ Src w' v ls ∧ Fr (fun x => v.ownBlock = some x) w w' := by
  rcases h.2 with ⟨rfl, h0⟩ | ⟨g, cap, cur, rfl, hg, hrow, hf, hc, hs, ht⟩
  · have hl0 : l = [] := List.eq_nil_of_length_eq_zero h0
    subst hl0
    refine (AnyF.slices_SortFunc_none Try.sortFuncW none 0 _ w).mono ?_
    rintro e w' ⟨rfl, rfl⟩
    exact ⟨rfl, [], List.Perm.refl _, fun i j _ hj => by simp at hj, .inl ⟨rfl, rfl⟩, Fr.refl _ _⟩
  · have hH := holds_own h rfl
    have hgw : g < w.heap.size := (Array.getElem?_eq_some_iff.1 hrow).1
    have hcmp : CmpLays Try.prog 26 #[] encI 2 cfp g 0 l.toArray.size w := fun m os dk hs x y => (compare_any x y _).mono fun _ _ h => h
    have hS := AnyQ.slices_SortFunc Try.sortFuncW 2 Try.isAgg42 Try.sizeOf42 encI (fun _ => rfl) (fun x v hv => by
      simp only [encI, List.mem_cons, List.not_mem_nil, or_false] at hv
      rcases hv with rfl | rfl <;> rfl) cfp (by rw [ltOf_cfp]; exact swo Hp.tot_str) 26 #[] g 0 cap l.toArray w (fun args w => enters_of (P := Try.prog) Try.func26 (by kernel_rfl) rfl args w) hcmp hH hgw (by simp; omega)
    rw [ltOf_cfp] at hS
    simp only [List.size_toArray] at hS
    have hS2 : Calls Try.prog 25 #[.slice (some ⟨g, 0, none⟩) l.length cap, .func (.func 26) #[] #[]] w fun e w' => e = .returned (.tuple #[]) ∧ ∃ d' n os, PermIn 0 l.length l.toArray d' ∧ SortedIn ltp 0 l.length d' ∧ w' = sortWorldK encI 2 w g 0 n d' os := hS
    refine hS2.mono ?_
    · rintro e w' ⟨rfl, d', n, os, ⟨p1, p2, p3⟩, hsd, rfl⟩
      have hz : d'.size = l.length := by simpa using p1
      have hHd := holdsK_sortWorldK_c encI 2 w g 0 l.toArray d' n os hH hgw (by simpa using hz)
      have hel : ∀ i, i < d'.size → d'[i]! = el d'.toList i := fun i hi => by rw [el_eq (by simpa using hi)]; simp [getElem!_pos, hi]
      refine ⟨rfl, d'.toList, ?_, fun i j hij hj => ?_, .inr ⟨g, cap, by simp [hz], fun i hi => ?_⟩, ?_⟩
      · have e1 : d'.extract 0 l.length = d' := by rw [← hz]; simp
        have e2 : l.toArray.extract 0 l.length = l.toArray := by simp
        rw [e1, e2] at p3
        simpa using p3
      · have hj2 : j < d'.size := by simpa using hj
        rw [← hel i (by omega), ← hel j hj2]
        exact hsd i j (Nat.zero_le _) hij (by omega)
      · have hi2 : i < d'.size := by simpa using hi
        have h1 := (hHd.cell (i := i) (c := 0) hi2 (by decide)).1
        have h2 := (hHd.cell (i := i) (c := 1) hi2 (by decide)).1
        rw [hel i hi2, Nat.zero_add] at h1 h2
        exact ⟨h1, h2⟩
      · exact (fr_sort w g n d' os).mono fun x _ e => by subst e; rfl
section
variable {ops : Array Oper} {rest : List Oper} {o : Oper} {a : Act} {Q : Exit → Act → World → Prop}
/-- 'append(row, timer)' -/
theorem wpList_push (w : World) (hgd : o.guard = none) (s x : Operand) (ho : o.op = .call { callee := .builtin .append, args := #[s, x], argTypes := #[29, 29] })
    (B : Nat) (v : Value) (l : List (K × Int)) (hs : a.eval s = v) (hown : Own w B v l) (hn : l.length ≤ 1000000) (ad : Addr) (c : Nat) (k : K) (t : Int) (hx : a.eval x = .slice (some ad) 1 c) (hc : ∀ j u, (cs [(k, t)])[j]? = some u → w.cell? (ad.add j) = some u) (hB : B ≤ w.heap.size)
    (h : ∀ v' w', Own w' B v' (l ++ [(k, t)]) → w.grownBy w' v.ownBlock → wpList Try.prog ops Q rest (a.put o.dst v') w') : wpList Try.prog ops Q (o :: rest) a w := by
  obtain ⟨i0, hi, hz0, hz1, hz2⟩ := info_parts infoT
  refine wpList_append_own w hgd s x _ ho B 42 i0 (.agg #[.string ⟨#[]⟩, .int .i64 0]) 2 24 Try.underlying29 hi hz0 hz1 hz2 rfl (by decide) v l.length (cs l) hs hown ad 1 c (cs [(k, t)]) hx rfl hc (cs_one _) (by unfold maxLen; omega) (by omega) hB ?_
  intro v' w' h1 h2 h3
  refine h v' w' ?_ h2
  have e1 : (l ++ [(k, t)]).length = l.length + 1 := by simp
  unfold Own
  rw [cs_app, e1]; exact h1
/-- 'clear(s)' -/
theorem wpList_clear (w : World) (hgd : o.guard = none) (x : Operand) (ho : o.op = .call { callee := .builtin .clear, args := #[x], argTypes := #[63] }) (ob : Option Nat) (g : K → Option Int) (hx : a.eval x = .map ob) (h : Sl w ob g)
    (hK : ∀ w', Sl w' ob (fun _ => none) → w.grownBy w' ob → w'.heap.size = w.heap.size → wpList Try.prog ops Q rest (a.put o.dst (.tuple #[])) w') : wpList Try.prog ops Q (o :: rest) a w := by
  obtain ⟨w', hr, h1, h2, h3⟩ := run_clear h o.type
  refine wpList_plain hgd fun K' hK' => ?_
  unfold Oper.wp
  simp [execOp, ho, resolve, invoke, builtin, hx, hr, Result.andThen]
  exact hK' _ _ (hK w' h1 h2 h3)
end
theorem Rgs.le {w : World} {ob : Option Nat} {r : Nat} {g : K → Option Int} {es l : List (K × Int)} {cnt : Nat} (h : Rgs w ob r g es cnt) (hl : Ls g l) : es.length ≤ l.length :=
  len_sub es l (nodup_of_keys h.nodup) fun p hp => (hl.2 p.1 p.2).2 (h.sub p.1 p.2 hp)
theorem own_cell {w : World} {B : Nat} {v : Value} {l : List (K × Int)} (h : Own w B v l) {b : Nat} (hb : v.ownBlock = some b) : B ≤ b ∧ b < w.heap.size ∧ ∃ cur, w.heap[b]? = some (.cells cur 42 (0, 0)) := by
  refine ⟨(h.lt b hb).1, (h.lt b hb).2, ?_⟩
  rcases h.2 with ⟨rfl, _⟩ | ⟨g2, cap, cur, rfl, _, h3, _⟩
  · cases hb
  · cases hb; exact ⟨cur, h3⟩
theorem Rgs.ne_row {w : World} {ob : Option Nat} {r : Nat} {g : K → Option Int} {es : List (K × Int)} {cnt : Nat} (h : Rgs w ob r g es cnt) {b : Nat} {cur : Array Value} {t : TypeId} {fz : Nat × Nat} (hb : w.heap[b]? = some (.cells cur t fz)) : b ≠ r ∧ ob ≠ some b := by
  cases ob with
  | none =>
    refine ⟨?_, by simp⟩
    rintro rfl
    rw [h.1] at hb; cases hb
  | some b' =>
    obtain ⟨n, D, lf, ⟨es, clock, since, seen, c0, h1, _, _, _, h2, _⟩, _⟩ := h
    refine ⟨?_, ?_⟩
    · rintro rfl; rw [h2] at hb; cases hb
    · intro e; cases e; rw [h1] at hb; cases hb
theorem Sl.ne_row {w : World} {ob : Option Nat} {g : K → Option Int} (h : Sl w ob g) {b : Nat} {cur : Array Value} {t : TypeId} {fz : Nat × Nat} (hb : w.heap[b]? = some (.cells cur t fz)) : ob ≠ some b := by
  cases ob with
  | none => simp
  | some b' =>
    obtain ⟨n, hm⟩ := h
    intro e; cases e
    obtain ⟨es, clock, h1⟩ := hm.at
    rw [h1] at hb; cases hb
set_option maxHeartbeats 1000000 in
theorem taken_any (w : World) (ob : Option Nat) (g : K → Option Int) (h : Sl w ob g) (hwk : ∀ k t, g k = some t → wk k) (hcnt : ∃ l, Ls g l ∧ l.length ≤ 500000) (B : Nat) (iv : Value) (l : List (K × Int)) (hown : Own w B iv l) (hB : B ≤ w.heap.size) (hob : ∀ b, ob = some b → b < B) (hl : l.length ≤ 500000) :
    Calls Try.prog 38 #[.map ob, iv] w fun e w' => ∃ v es, e = .returned v ∧ Ls g es ∧ Own w' B v (l ++ es) ∧ Sl w' ob (fun _ => none) ∧ Fr (fun x => ob = some x ∨ B ≤ x) w w' := by
  have hwl : ∀ b, ob = some b → b < w.heap.size := fun b e => by have := hob b e; omega
  have HH := Lib.hid (And.intro hown (And.intro hB (And.intro hob (And.intro hl hcnt))))
  clear hown hB hob hl hwl hcnt
  go_enter Try.func38, Try.ntmps38
  go_wp2_with (first
    | (at_range; refine wpList_range_sl _ rfl _ _ rfl Try.underlying63 ob g rfl h hwk ?_; intro w0 cnt0 hrg0 hg0 hs0)
    | go_in)
  go_frame
  obtain ⟨hown, hB, hob, hl, hcnt⟩ := HH.out
  have st0 : Own w0 B iv l := own_kept hown fun b hb => hg0.block b ((own_cell hown hb).2.1) (by simp)
  have st1 : Fr (fun x => B ≤ x) w w0 := ⟨hg0.os, hg0.tape, hg0.output, hg0.size, fun k hk _ => hg0.block k hk (by simp)⟩
  have HX := Lib.hid (And.intro hrg0 (And.intro st0 st1))
  clear hrg0 hg0 hs0 st0 st1 hown hB hob hl
  go_loopw [1] (fun rv wr => ∃ row es cnt, row = rv ∧ Rgs wr ob w.heap.size g es cnt ∧ Own wr B row (l ++ es) ∧ Fr (fun x => B ≤ x) w wr) (fun _ wr => rl wr ob w.heap.size)
  case atStart => exact ⟨iv, [], cnt0, rfl, HX.out.1, by rw [List.append_nil]; exact HX.out.2.1, HX.out.2.2⟩
  case round =>
    obtain ⟨row, es, cnt, hrv, hrg, hrow, hfr⟩ := hrel
    subst hrv
    have HR := Lib.hid (And.intro hrow hfr)
    clear hrow hfr
    go_wp2_with (first
      | (at_next; refine wpList_next_sl _ rfl _ rfl ob w.heap.size g es cnt rfl hrg ?_ ?_)
      | go_in)
    · intro hls
      have hslr : Sl wr ob g := by
        refine h.kept fun b hb => HR.out.2.block b ?_ ?_
        · rw [hb] at h; exact h.lt
        · have := HH.out.2.2.1 b hb; omega
      obtain ⟨w9, hrun9, hs9, hg9, hz9⟩ := run_clear hslr 0
      have H9 := Lib.hid (And.intro hs9 (And.intro hg9 hslr))
      clear hs9 hg9 hz9 hslr hrg
      go_wp2_with fail
      go_ret
      obtain ⟨hs9, hg9, hslr⟩ := H9.out
      obtain ⟨hrow, hfr⟩ := HR.out
      refine ⟨_, es, rfl, hls, own_kept hrow fun b hb => hg9.block b (own_cell hrow hb).2.1 (fun e => ?_), hs9, ?_⟩
      · obtain ⟨cur, hcur⟩ := (own_cell hrow hb).2.2
        exact hslr.ne_row hcur e.symm
      · exact (hfr.mono fun x _ hx => .inr hx).trans (Fr.grownN hg9 (S := fun x => ob = some x ∨ B ≤ x) fun b e => .inl (.inl e)) fun x hx => .inl hx
    · intro k t w1 cnt1 hwk1 hf hrg1 hlt hg1 hs1 hen
      have hrow1 : Own w1 B row (l ++ es) := own_kept HR.out.1 fun b hb => hg1.block b (own_cell HR.out.1 hb).2.1 (fun e => by
        obtain ⟨cur, hcur⟩ := (own_cell HR.out.1 hb).2.2
        exact (hrg.ne_row hcur).1 (Option.some.inj e))
      have hle : (l ++ es).length ≤ 1000000 := by
        obtain ⟨l', h1, h2⟩ := hcnt
        have h3 := hrg.le h1
        have h4 := HH.out.2.2.2.1
        simp; omega
      have hB1 : B ≤ (w1.alloc (.cells #[ek k, er t] 42)).heap.size := by
        have h4 := HH.out.2.1
        have h5 := HR.out.2.size
        simp; omega
      have hcs : ∀ j u, (cs [(k, t)])[j]? = some u → (w1.alloc (.cells #[ek k, er t] 42)).cell? ((⟨w1.heap.size, 0, none⟩ : Addr).add j) = some u := by
        intro j u hj
        match j, hj with
        | 0, hj | 1, hj =>
          simp [cs] at hj
          subst hj
          simp [Addr.add]
      have hrl := hrg.left_eq
      have HL := Lib.hid hrl
      clear hrl
      have HW := Lib.hid (And.intro hrg1 (And.intro hlt (And.intro hg1 (And.intro hs1 (And.intro hrow1 (And.intro hle (And.intro hB1 hcs)))))))
      clear hrg1 hlt hg1 hs1 hwk1 hf hrg hrow1 hle hB1 hcs
      unfold ek er at hen
      unfold ek er
      go_wp2_with (first
        | (at_builtin; refine wpList_push _ rfl _ _ rfl B row (l ++ es) rfl (HW.out.2.2.2.2.1.alloc _) HW.out.2.2.2.2.2.1 ⟨w1.heap.size, 0, none⟩ 1 k t rfl HW.out.2.2.2.2.2.2.2 HW.out.2.2.2.2.2.2.1 ?_; intro v9 w9 ho9 hg9)
        | go_in)
      obtain ⟨hrg1, hlt, hg1, hs1, hrow1, hle, hB1, hcs⟩ := HW.out
      have hgA : w1.grownBy (w1.alloc (.cells #[ek k, er t] 42)) none := World.grownBy_alloc w1 _ none
      have hg2 : w1.grownBy w9 row.ownBlock := (hgA.but row.ownBlock).trans hg9
      have hrg9 : Rgs w9 ob w.heap.size g (es ++ [(k, t)]) cnt1 := by
        cases hb : row.ownBlock with
        | none =>
          rw [hb] at hg2
          exact hrg1.kept (fun b e => hg2.block b (by cases e; obtain ⟨n, D, lf, h1, _⟩ := hrg1; exact h1.owns.lt) (by simp)) (hg2.block _ hrg1.lt (by simp))
        | some b' =>
          obtain ⟨cur, hcur⟩ := (own_cell hrow1 hb).2.2
          have hne := hrg1.ne_row hcur
          rw [hb] at hg2
          exact hrg1.kept (fun b e => hg2.block b (by cases e; obtain ⟨n, D, lf, h1, _⟩ := hrg1; exact h1.owns.lt) (fun e2 => hne.2 (by rw [e, e2]))) (hg2.block _ hrg1.lt (fun e2 => hne.1 (Option.some.inj e2).symm))
      go_roundw
      case rel =>
        refine ⟨_, es ++ [(k, t)], cnt1, rfl, hrg9, by rw [← List.append_assoc]; exact ho9, (HR.out.2.trans (Fr.grownN hg1 (S := fun x => B ≤ x) fun b e => ?_) fun x hx => .inl hx).trans (Fr.grownN hg2 (S := fun x => B ≤ x) fun b e => .inl (own_cell hrow1 e).1) fun x hx => .inl hx⟩
        have h4 := HH.out.2.1
        cases e; exact .inl h4
      case measure => rw [hrg9.left_eq, HL.out]; exact hlt
end Go.Proofs.Ytcafiehlhdoibaa.Wh
