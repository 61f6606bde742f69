
/- heaps of string and uint64: sorted -/
import Derived.Test.YtomkefaakgodhaaHpOE
import Derived.Test.YtomkefaakgodhaaHpPE
import Derived.Shelf.SlSortCmp.NoneTotal
import Derived.Lib.OwnBridge
namespace Go.Proofs.Ytomkefaakgodhaa.HpE
open Go.RowKit Go.Lib Go.Sort Hp Rg
set_option linter.unusedVariables false
attribute [local go_sem] Oper.semAt_some
set_option maxRecDepth 20000
/-- none is ahead of one before it -/
def Srt (l : List (K × Int)) : Prop := ∀ i j, i < j → j < l.length → ltp (el l j) (el l i) = false
def encI (x : K × Int) : List Value := [ek x.1, er x.2]
theorem ltOf_cfp : ltOf (cfp (K := K)) = ltp := by
  funext x y
  exact cfp_neg x y
theorem collect_any (w : World) (B0 : Nat) {iv : Value} {l : List (K × Int)} (hbox : w.cell? ⟨B0, 0, none⟩ = some iv) (hrow : Row w iv l) (hl : l.length ≤ 1000000) :
    Calls Try.prog 49 #[.func (.func 51) #[] #[.pointer (some ⟨B0, 0, none⟩)]] w fun e w' => ∃ v, e = .returned v ∧ w'.ownsRow (w.heap.size + 1) 63 2 v l.length (cs l) ∧ Below w.heap.size w w' := by
  have hA := appendSeq_any w B0 hbox hrow hl
  clear hbox hrow hl
  go_enter Try.func49, Try.ntmps49
  go_wp2_with fail
  refine hA.mono ?_
  rintro e w1 ⟨v, rfl, h1, h2⟩
  obtain ⟨ao, cp, rfl⟩ := own_shape h1
  have HR := Lib.hid (And.intro h1 h2)
  clear h1 h2
  go_wp2_with fail
  go_ret
  exact ⟨_, rfl, HR.out⟩
theorem holds_own {w : World} {B g n cap : Nat} {l : List (K × Int)} (h : w.ownsRow B 63 2 (.slice (some ⟨g, 0, none⟩) n cap) n (cs l)) (hn : n = l.length) : HoldsK encI 2 w g 0 l.toArray := by
  subst hn
  rcases h.2 with ⟨e, _⟩ | ⟨g2, cap2, cur, e, hB, hg, hf, hc, hs, ht⟩
  · cases e
  · cases e
    intro t hlt
    rw [size_flatK] at hlt
    have hlt2 : t < l.length * 2 := by simpa using hlt
    rw [get_flatK _ _ _ _ hlt]
    have hgs := cs_get l (t / 2) (by omega)
    have hfr : w.frozen? ⟨g, 0 + t, none⟩ = false := by simp [World.frozen?, hg]
    refine ⟨?_, hfr⟩
    have hd : (l.toArray)[t / 2]! = el l (t / 2) := by
      rw [el_eq (by omega)]
      simp [getElem!_pos, show t / 2 < l.length by omega]
    rw [hd, Nat.zero_add, cell_of_row w g _ cur _ _ hg]
    have e1 : (cur.toList.take (l.length * 2))[t]? = (cs l)[t]? := by rw [ht]
    rw [List.getElem?_take_of_lt (by omega), Array.getElem?_toList] at e1
    rw [e1]
    rcases Nat.mod_two_eq_zero_or_one t with e2 | e2
    · rw [show t = t / 2 * 2 by omega, hgs.1, show t / 2 * 2 / 2 = t / 2 by omega, show t / 2 * 2 % 2 = 0 by omega]; rfl
    · rw [show t = t / 2 * 2 + 1 by omega, hgs.2, show (t / 2 * 2 + 1) / 2 = t / 2 by omega, show (t / 2 * 2 + 1) % 2 = 1 by omega]; rfl
theorem below_grow {B : Nat} {a b : World} (h : Below B a b) (hB : B ≤ b.heap.size) (os : Array Obj) : Below B a (grow b os) :=
  ⟨h.os, h.tape, h.output, by have := h.size; simp [grow]; omega, fun k hk => by rw [← h.block k hk]; simp [grow, Array.getElem?_append, show k < b.heap.size by omega]⟩
theorem sort_any (w : World) {B : Nat} {v : Value} {l : List (K × Int)} (h : w.ownsRow B 63 2 v l.length (cs l)) (hB : B ≤ w.heap.size) (hl : l.length ≤ 1000000) :
    Calls Try.prog 50 #[v, .func (.func 42) #[] #[]] w fun e w' => e = .returned (.tuple #[]) ∧ ∃ ls : List (K × Int), ls.Perm l ∧ Srt ls ∧ Src w' v ls ∧ Below B w w' := by
  rcases h.2 with ⟨rfl, h0⟩ | ⟨g, cap, cur, rfl, hg, hrow, hf, hc, hs, ht⟩
  · have hl0 : l = [] := List.eq_nil_of_length_eq_zero h0
    subst hl0
    refine (AnyF.slices_SortFunc_none Try.sortFuncE none 0 _ w).mono ?_
    rintro e w' ⟨rfl, rfl⟩
    exact ⟨rfl, [], List.Perm.refl _, fun i j _ hj => by simp at hj, .inl ⟨rfl, _, _, rfl⟩, Below.refl _ _⟩
  · have hH := holds_own h rfl
    have hgw : g < w.heap.size := (Array.getElem?_eq_some_iff.1 hrow).1
    have hcmp : CmpLays Try.prog 42 #[] encI 2 cfp g 0 l.toArray.size w := fun m os dk hs x y => (compare_any x y _).mono fun _ _ h => h
    have hS := AnyQ.slices_SortFunc Try.sortFuncE 2 Try.isAgg63 Try.sizeOf63 encI (fun _ => rfl) (fun x v hv => by
      simp only [encI, List.mem_cons, List.not_mem_nil, or_false] at hv
      rcases hv with rfl | rfl <;> rfl) cfp (by rw [ltOf_cfp]; exact swo Hp.tot_str) 42 #[] g 0 cap l.toArray w (fun args w => enters_of (P := Try.prog) Try.func42 (by kernel_rfl) rfl args w) hcmp hH hgw (by simp; omega)
    rw [ltOf_cfp] at hS
    simp only [List.size_toArray] at hS
    have hS2 : Calls Try.prog 50 #[.slice (some ⟨g, 0, none⟩) l.length cap, .func (.func 42) #[] #[]] w fun e w' => e = .returned (.tuple #[]) ∧ ∃ d' n os, PermIn 0 l.length l.toArray d' ∧ SortedIn ltp 0 l.length d' ∧ w' = sortWorldK encI 2 w g 0 n d' os := hS
    refine hS2.mono ?_
    · rintro e w' ⟨rfl, d', n, os, ⟨p1, p2, p3⟩, hsd, rfl⟩
      have hz : d'.size = l.length := by simpa using p1
      have hHd := holdsK_sortWorldK_c encI 2 w g 0 l.toArray d' n os hH hgw (by simpa using hz)
      have hel : ∀ i, i < d'.size → d'[i]! = el d'.toList i := fun i hi => by rw [el_eq (by simpa using hi)]; simp [getElem!_pos, hi]
      refine ⟨rfl, d'.toList, ?_, fun i j hij hj => ?_, .inr ⟨g, cap, by simp [hz], fun i hi => ?_⟩, ?_⟩
      · have e1 : d'.extract 0 l.length = d' := by rw [← hz]; simp
        have e2 : l.toArray.extract 0 l.length = l.toArray := by simp
        rw [e1, e2] at p3
        simpa using p3
      · have hj2 : j < d'.size := by simpa using hj
        rw [← hel i (by omega), ← hel j hj2]
        exact hsd i j (Nat.zero_le _) hij (by omega)
      · have hi2 : i < d'.size := by simpa using hi
        have h1 := (hHd.cell (i := i) (c := 0) hi2 (by decide)).1
        have h2 := (hHd.cell (i := i) (c := 1) hi2 (by decide)).1
        rw [hel i hi2, Nat.zero_add] at h1 h2
        exact ⟨h1, h2⟩
      · exact below_grow (below_putRow (Below.refl B w) hg) (by simpa [putRowK, putRow, mapBlock, Sort.ahead] using hB) os
theorem own_base {w : World} {B B' : Nat} {t : TypeId} {k n : Nat} {v : Value} {xs : List Value} (h : w.ownsRow B t k v n xs) (hB : B' ≤ B) : w.ownsRow B' t k v n xs :=
  ⟨h.1, h.2.imp_right fun ⟨g, cap, cur, h1, h2, h3⟩ => ⟨g, cap, cur, h1, Nat.le_trans hB h2, h3⟩⟩
theorem sortedFunc_any (w : World) (B0 : Nat) {iv : Value} {l : List (K × Int)} (hbox : w.cell? ⟨B0, 0, none⟩ = some iv) (hrow : Row w iv l) (hl : l.length ≤ 1000000) :
    Calls Try.prog 40 #[.func (.func 51) #[] #[.pointer (some ⟨B0, 0, none⟩)], .func (.func 42) #[] #[]] w fun e w' => ∃ v ls, e = .returned v ∧ ls.Perm l ∧ Srt ls ∧ Src w' v ls ∧ (∀ a n c, v = .slice (some a) n c → w.heap.size ≤ a.block ∧ a.block < w'.heap.size) ∧ Below w.heap.size w w' := by
  have hC := collect_any w B0 hbox hrow hl
  have hS := fun W v (h : W.ownsRow w.heap.size 63 2 v l.length (cs l)) (hB : w.heap.size ≤ W.heap.size) => sort_any W h hB hl
  clear hbox hrow hl
  go_enter Try.func40, Try.ntmps40
  go_wp2_with fail
  refine hC.mono ?_
  rintro e w1 ⟨v, rfl, h1, h2⟩
  obtain ⟨ao, cp, rfl⟩ := own_shape h1
  have hS1 := hS w1 _ (own_base h1 (Nat.le_succ _)) h2.size
  have HR := Lib.hid (And.intro h1 h2)
  clear h1 h2 hS hC
  generalize l.length = n at *
  go_wp2_with fail
  refine hS1.mono ?_
  rintro e w2 ⟨rfl, ls, q1, q2, q3, q4⟩
  have HQ := Lib.hid (And.intro q1 (And.intro q2 (And.intro q3 q4)))
  clear q1 q2 q3 q4 hS1
  go_wp2_with fail
  go_ret
  exact ⟨_, ls, rfl, HQ.out.1, HQ.out.2.1, HQ.out.2.2.1, fun a m c e => by
    cases e
    exact ⟨Nat.le_trans (Nat.le_succ _) (HR.out.1.lt a.block rfl).1, Nat.lt_of_lt_of_le (HR.out.1.lt a.block rfl).2 HQ.out.2.2.2.size⟩, HR.out.2.trans HQ.out.2.2.2⟩
theorem Src.kept {X Y : World} {v : Value} {l : List (K × Int)} (h : Src X v l) (e : ∀ a n c, v = .slice (some a) n c → Y.heap[a.block]? = X.heap[a.block]?) : Src Y v l := by
  rcases h with h | ⟨g, c, h1, h2⟩
  · exact .inl h
  · have hb := e _ _ _ h1
    have hc : ∀ k, Y.cell? ⟨g, k, none⟩ = X.cell? ⟨g, k, none⟩ := fun k => by unfold World.cell?; rw [hb]
    exact .inr ⟨g, c, h1, fun i hi => by rw [hc, hc]; exact h2 i hi⟩
theorem all_any {S : Nat → Prop} {w : World} {hb : Nat} {m : List (K × Int)} (h : Hv S w hb m) (hn : m.length ≤ 1000000) :
    Calls Try.prog 29 #[.pointer (some ⟨hb, 0, none⟩)] w fun e w' => ∃ v ls, e = .returned (.func (.func 43) #[] #[.pointer (some ⟨w.heap.size, 0, none⟩)]) ∧ w'.cell? ⟨w.heap.size, 0, none⟩ = some v ∧ ls.Perm m ∧ Srt ls ∧ Src w' v ls ∧ (∀ a n c, v = .slice (some a) n c → w.heap.size < a.block ∧ a.block < w'.heap.size) ∧ Below w.heap.size w w' := by
  obtain ⟨iv, mv, l, f, hq, hh, hpm⟩ := h
  have hI := hq.items
  obtain ⟨a, cap, hiv, hcap⟩ := hq.shape
  have hbV : Below w.heap.size w (w.alloc (.cells #[.slice none 0 0] 73)) := (Below.refl _ w).alloc (Nat.le_refl _) _
  have hIV := (hbV.cell (World.block_lt_of_cell? _ _ hI)).trans hI
  have hrowV := (hq.row).kept fun b hb => hbV.block b (hq.row.lt hb)
  have h0V := (MapKept.heap_alloc w (.cells #[.slice none 0 0] 73)).1
  have hzV : (w.alloc (.cells #[.slice none 0 0] 73)).heap.size = w.heap.size + 1 := by simp
  have hll := hpm.length_eq
  obtain ⟨n, hln⟩ : ∃ n, n = l.length := ⟨_, rfl⟩
  rw [← hln] at hiv
  have HH := Lib.hid (And.intro hbV (And.intro hrowV (And.intro h0V (And.intro hzV (And.intro hpm (And.intro hiv (And.intro hn hll)))))))
  rw [hiv] at hIV
  clear hbV hrowV h0V hzV hq hh hpm hI hn hcap hll hiv hln
  obtain ⟨V, hV⟩ : ∃ V, V = w.alloc (.cells #[.slice none 0 0] 73) := ⟨_, rfl⟩
  rw [← hV] at HH
  go_enter Try.func29, Try.ntmps29
  go_wp2_with fail
  rw [← hV]
  clear hIV hV
  refine (values_any V (.slice a n cap) ⟨_, _, _, rfl⟩).mono ?_
  rintro e w1 ⟨rfl, hw1⟩
  have hb1 : Below V.heap.size V w1 := by rw [hw1]; exact (Below.refl _ V).alloc (Nat.le_refl _) _
  have hx1 : w1.cell? ⟨V.heap.size, 0, none⟩ = some (.slice a n cap) := by rw [hw1, cell_of_row _ _ _ _ _ _ (MapKept.heap_alloc V _).1]; rfl
  have hz1 : w1.heap.size = V.heap.size + 1 := by rw [hw1]; simp
  have hS := sortedFunc_any w1 V.heap.size (iv := iv) (l := l) (by rw [hx1, HH.out.2.2.2.2.2.1]) (HH.out.2.1.kept fun b hb => hb1.block b (HH.out.2.1.lt hb)) (by have := HH.out.2.2.2.2.2.2; omega)
  have h01 : w1.heap[w.heap.size]? = _ := (hb1.block w.heap.size (by have := HH.out.2.2.2.1; omega)).trans HH.out.2.2.1
  have HB := Lib.hid (And.intro hb1 (And.intro hz1 h01))
  clear hw1 hx1 hb1 hz1 h01
  generalize hbx : V.heap.size = bx at *
  go_wp2_with fail
  refine hS.mono ?_
  rintro e w2 ⟨v, ls, rfl, q1, q2, q3, q4, q5⟩
  have h02 : w2.heap[w.heap.size]? = some (.cells #[.slice none 0 0] 73 (0, 0)) := (q5.block w.heap.size (by have := HB.out.2.1; have := HH.out.2.2.2.1; omega)).trans HB.out.2.2
  obtain ⟨a2, c2, rfl, _⟩ := q3.shape
  have hc2 : w2.cell? ⟨w.heap.size, 0, none⟩ = some (.slice none 0 0) := by rw [cell_of_row _ _ _ _ _ _ h02]; rfl
  have hf2 : w2.frozen? ⟨w.heap.size, 0, none⟩ = false := by simp [World.frozen?, h02]
  have hlt2 : ∀ a n c, Value.slice a2 ls.length c2 = .slice (some a) n c → a.block < w2.heap.size := fun a n c e => (q4 a n c e).2
  have HQ := Lib.hid (And.intro q1 (And.intro q2 (And.intro q3 (And.intro q4 (And.intro q5 (And.intro h02 hlt2))))))
  clear q1 q2 q3 q4 q5 hS h02 hlt2
  generalize hnl : ls.length = nl at *
  go_wp2_with fail
  go_ret
  obtain ⟨z1, z2, z3, z4, z5, z6, z7, z8⟩ := HH.out
  obtain ⟨y1, y2, y3⟩ := HB.out
  obtain ⟨q1, q2, q3, q4, q5, q6, q7⟩ := HQ.out
  have hbw2 : Below w.heap.size w w2 := (z1.trans (y1.mono (by omega))).trans (q5.mono (by omega))
  refine ⟨.slice a2 nl c2, ls, by simp, ?_, q1.trans z5, q2, q3.kept (fun a n c e => ?_), fun a n c e => ?_, ?_⟩
  · exact World.cell?_setCell_same _ _ _ hc2
  · have := (q4 a n c e).1
    exact heap_setCell_other _ _ _ _ (show a.block ≠ w.heap.size by omega)
  · have := q7 a n c e
    have := (q4 a n c e).1
    refine ⟨by omega, ?_⟩
    simpa using q7 a n c e
  · exact hbw2.setCell (Nat.le_refl _) _
end Go.Proofs.Ytomkefaakgodhaa.HpE

