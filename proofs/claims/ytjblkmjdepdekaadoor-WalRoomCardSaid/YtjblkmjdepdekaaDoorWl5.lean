
/- logs: the records of a half -/
import Derived.Test.YtjblkmjdepdekaaDoorWl4
import Derived.Test.YtjblkmjdepdekaaDoorFmV
namespace Go.Proofs.YtjblkmjdepdekaaDoor.Wl
open Go.RowKit Go.Lib Go.Joins Go.Proofs.YtjblkmjdepdekaaDoor.By Go.Proofs.YtjblkmjdepdekaaDoor.Dk Go.Proofs.YtjblkmjdepdekaaDoor.Oc Go.Proofs.YtjblkmjdepdekaaDoor.Rg Go.Proofs.YtjblkmjdepdekaaDoor.Ht Go.Proofs.YtjblkmjdepdekaaDoor.Cr Go.Proofs.YtjblkmjdepdekaaDoor.Fm
attribute [local go_sem] Oper.semAt_some

/-- a record that lies in memory -/
structure Rv where
  k : UInt8
  a : Option Addr
  c : Nat
  d : List UInt8
def rcv (x : Rv) : List Value := [.int .u8 (x.k.toNat : Nat), .slice x.a x.d.length x.c]
def rcvs (L : List Rv) : List Value := L.flatMap rcv
def rc (x : Rv) : Rc := (x.k, x.d)
theorem rcvs_len : ∀ L : List Rv, (rcvs L).length = L.length * 2
  | [] => rfl
  | x :: L => by have := rcvs_len L; simp only [rcvs, List.flatMap_cons, List.length_append, List.length_cons] at *; rw [this]; simp [rcv]; omega
theorem rcvs_app (L M : List Rv) : rcvs (L ++ M) = rcvs L ++ rcvs M := by simp [rcvs]
/-- a slice of the call's own that owns records -/
structure IsRs (B : Nat) (w : World) (v : Value) (L : List Rv) : Prop where
  own : w.ownsRow B 34 2 v L.length (rcvs L)
  data : ∀ x ∈ L, w.ownsRow B 5 1 (.slice x.a x.d.length x.c) x.d.length (byteCells x.d)
theorem IsRs.calm {B N : Nat} {w w' : World} {v : Value} {L : List Rv} (h : IsRs B w v L) (hc : Calmly N w w') : IsRs B w' v L := ⟨hc.own h.own, fun x hx => hc.own (h.data x hx)⟩
theorem IsRs.old {B : Nat} {w w' : World} {v : Value} {L : List Rv} (h : IsRs B w v L) (hc : Below w.heap.size w w') : IsRs B w' v L := ⟨own_below h.own hc (Nat.le_refl _), fun x hx => own_below (h.data x hx) hc (Nat.le_refl _)⟩
/-- the records of a chain, as far as it goes -/
def Tells (b : List UInt8) (L : List Rc) : Prop := (∀ i (h : i < L.length), (Fm.at' b 0 i).2.2.2 = 0 ∧ (Fm.at' b 0 i).1 = L[i]) ∧ (Fm.at' b 0 L.length).2.2.2 ≠ 0
/-- without the first seal; whether there is one -/
def stp (s : List Rc × Bool) (r : Rc) : List Rc × Bool := if s.2 = false ∧ r.1 = 255 ∧ r.2 = [] then (s.1, true) else (s.1 ++ [r], s.2)
def uf (L : List Rc) : List Rc × Bool := L.foldl stp ([], false)
theorem uf_snoc (L : List Rc) (r : Rc) : uf (L ++ [r]) = stp (uf L) r := by unfold uf; rw [List.foldl_append]; rfl
theorem cnb_len (t : Nat) (b : List UInt8) (k : Nat) : ∀ f m, (cnb t b k f m).length ≤ 55 * f
  | 0, _ => Nat.zero_le _
  | f + 1, m => by
    have ih := cnb_len t b k f (m + 1)
    unfold cnb
    split
    · rename_i h
      rw [List.length_append]
      have : (((getS b m).drop 9).take (ctn (getS b m))).length ≤ 55 := by rw [List.length_take]; omega
      split
      · simp only [List.length_nil]; omega
      · omega
    · simp
theorem cnt_len (b : List UInt8) (k : Nat) : (cnt b k).length ≤ 55 * k := by
  unfold cnt; split
  · simp
  · exact cnb_len _ _ _ _ _
theorem info34 : (Tryd.prog.info? 34).map (fun i => (i.zero, i.size, i.bytes)) = some (some (.agg #[.int .u8 0, .slice none 0 0]), 2, 32) := by kernel_rfl
theorem cell_mid {n₀ n₁ : Nat} {w W : World} (h : Mid n₀ n₁ w.heap.size w W) {p : Addr} {v : Value} (hc : w.cell? p = some v) (hp : p.block < n₀ ∨ n₁ ≤ p.block) : W.cell? p = some v :=
  (World.cell?_of_block (w := w) (h.block p.block hp (World.block_lt_of_cell? w _ hc))).trans hc
theorem own_mid {n₀ n₁ B : Nat} {w W : World} (h : Mid n₀ n₁ w.heap.size w W) {e : TypeId} {k n : Nat} {v : Value} {xs : List Value} (ho : w.ownsRow B e k v n xs) (hB : n₁ ≤ B) : W.ownsRow B e k v n xs := by
  refine ⟨ho.1, ?_⟩
  rcases ho.2 with h1 | ⟨g, cp, cur, h1, h2, h3, h4⟩
  · exact .inl h1
  · exact .inr ⟨g, cp, cur, h1, h2, (h.block g (.inr (by omega)) (lt_of_block h3)).trans h3, h4⟩
theorem nibs_mid {n₀ n₁ : Nat} {w0 w W : World} (h : Mid n₀ n₁ w.heap.size w W) (hn : Nibs w0) (h0 : w0.heap.size ≤ n₀) (hb : Below w0.heap.size w0 w) : Nibs W := fun i hi =>
  cell_mid h ((hn.old hb) i hi) (.inl (by have := World.block_lt_of_cell? w0 _ (hn i hi); exact Nat.lt_of_lt_of_le this h0))
theorem isB_of_own' {w : World} {B : Nat} {a : Option Addr} {cp : Nat} {l : List UInt8} (h : w.ownsRow B 5 1 (.slice a l.length cp) l.length (byteCells l)) : IsB w a l.length cp l := by
  obtain ⟨x, y, hv, hib⟩ := isB_own h
  simp only [Value.slice.injEq, true_and] at hv
  obtain ⟨rfl, rfl⟩ := hv
  exact hib
/-- what the loop over a half's chain has so far -/
def Rs (w : World) (N p : Nat) (b : List UInt8) (m : Nat) (X : World) : Prop :=
  ∃ v L rv, X.heap[p]? = some (.cells #[v] 31 (0, 0)) ∧ X.heap[p + 1]? = some (.cells #[.bool (uf L).2] 4 (0, 0)) ∧ IsRs N X v rv ∧ rv.map rc = (uf L).1 ∧ L.length = m ∧ (∀ i (h : i < L.length), (Fm.at' b 0 i).2.2.2 = 0 ∧ (Fm.at' b 0 i).1 = L[i]) ∧ Below w.heap.size w X ∧ N ≤ X.heap.size
theorem Rs.calm {w X X' : World} {p N m : Nat} {b : List UInt8} (h : Rs w N p b m X) (hb : Calmly N X X') (hN : w.heap.size ≤ N) : Rs w N p b m X' := by
  obtain ⟨v, L, rv, h1, h2, h3, h4, h5, h6, h7, h8⟩ := h
  exact ⟨v, L, rv, hb.cell h1, hb.cell h2, h3.calm hb, h4, h5, h6, h7.trans (hb.below hN h8), Nat.le_trans h8 hb.size⟩
theorem uf_gen : ∀ (M : List Rc) (s : List Rc × Bool), (M.foldl stp s).1.length ≤ s.1.length + M.length
  | [], _ => Nat.le_refl _
  | r :: M, s => by
    have h := uf_gen M (stp s r)
    rw [List.foldl_cons, List.length_cons]
    have h2 : (stp s r).1.length ≤ s.1.length + 1 := by unfold stp; split <;> simp
    omega
theorem uf_len (M : List Rc) : (uf M).1.length ≤ M.length := by have := uf_gen M ([], false); simpa [uf] using this
theorem stt_ge {b : List UInt8} : ∀ m, (∀ i, i < m → (Fm.at' b 0 i).2.2.2 = 0) → 6 * m ≤ (stt b 0 m).1 ∧ (stt b 0 m).1 ≤ b.length
  | 0, _ => ⟨Nat.le_refl _, Nat.zero_le _⟩
  | m + 1, h => by
    have ih := stt_ge m (fun i hi => h i (by omega))
    have hl := nxt_len (h m (Nat.lt_succ_self _))
    rw [List.length_drop] at hl
    rw [stt_succ]
    simp only
    unfold Fm.at'
    omega
theorem told_len {b : List UInt8} {L : List Rc} (h : ∀ i (h : i < L.length), (Fm.at' b 0 i).2.2.2 = 0 ∧ (Fm.at' b 0 i).1 = L[i]) : 6 * L.length ≤ b.length := by
  have := stt_ge (b := b) L.length (fun i hi => (h i hi).1); omega
theorem cell_two_new (w : World) (v u : Value) (t : TypeId) : ∀ j x, [v, u][j]? = some x → (w.alloc (.cells #[v, u] t)).cell? ((⟨w.heap.size, 0, none⟩ : Addr).add j) = some x := by
  intro j x hj
  match j, hj with
  | 0, hj | 1, hj =>
    simp at hj
    subst hj
    simp [Addr.add]
/-- a record more -/
theorem Rs_more {w A2 W5 : World} {N p m : Nat} {b : List UInt8} {v v5 : Value} {L acc : List Rc} {sl : Bool} {rv : List Rv} {x : Rv} {O : Obj} (hp : w.heap.size ≤ p) (hpN : p + 2 ≤ N)
    (i1 : A2.heap[p]? = some (.cells #[v] 31 (0, 0))) (i2 : A2.heap[p + 1]? = some (.cells #[.bool sl] 4 (0, 0))) (i3 : IsRs N A2 v rv) (i4 : rv.map rc = acc) (hup : uf (L ++ [rc x]) = (acc ++ [rc x], sl)) (i5 : L.length = m)
    (hL : ∀ i (h : i < (L ++ [rc x]).length), (Fm.at' b 0 i).2.2.2 = 0 ∧ (Fm.at' b 0 i).1 = (L ++ [rc x])[i]) (i7 : Below w.heap.size w A2) (i8 : N ≤ A2.heap.size) (hx : A2.ownsRow N 5 1 (.slice x.a x.d.length x.c) x.d.length (byteCells x.d))
    (hg : (A2.alloc O).grownBy W5 v.ownBlock) (ho : W5.ownsRow N 34 2 v5 (rv.length + 1) (rcvs (rv ++ [x]))) :
    KeepsFrom N A2 (W5.setCell ⟨p, 0, none⟩ v5) ∧ Mid w.heap.size (p + 2) N A2 (W5.setCell ⟨p, 0, none⟩ v5) ∧ Rs w N p b (m + 1) (W5.setCell ⟨p, 0, none⟩ v5) := by
  have hfr : Fr (fun q => q = p ∨ some q = v.ownBlock) A2 (W5.setCell ⟨p, 0, none⟩ v5) :=
    Fr.setCell (show Fr (fun q => q = p ∨ some q = v.ownBlock) A2 W5 from ⟨hg.os, hg.tape, hg.output, Nat.le_trans (by simp) hg.size, fun q h1 h2 => (hg.block q (by simp; omega) (fun e => h2 (.inr e))).trans (Below.heap_alloc A2 _ q h1)⟩) (.inl (.inl rfl)) _
  have hrow : ∀ q, some q = v.ownBlock → N ≤ q ∧ ∃ cur, A2.heap[q]? = some (.cells cur 34 (0, 0)) := fun q hq => ⟨(i3.own.lt q hq.symm).1, own_type i3.own hq.symm⟩
  have hk := fr_round (n₀ := w.heap.size) (n₁ := p + 2) (B := N) hfr (fun q hq => by
    rcases hq with rfl | hq
    · exact .inl ⟨hp, by omega⟩
    · obtain ⟨h1, cur, hc⟩ := hrow q hq
      refine .inr ⟨h1, fun o ho => ?_⟩
      rw [hc] at ho
      obtain rfl := Option.some.inj ho
      rfl) hpN i8
  have hz := hfr.size
  have hu8 : ∀ {y : Value} {n : Nat} {xs : List Value}, A2.ownsRow N 5 1 y n xs → (W5.setCell ⟨p, 0, none⟩ v5).ownsRow N 5 1 y n xs := fun {y n xs} hy => own_other hy fun q hq => by
    have h1 := hy.lt q hq
    refine hfr.block q h1.2 fun h2 => ?_
    rcases h2 with rfl | h2
    · omega
    · obtain ⟨_, cur, hc⟩ := hrow q h2
      exact own_not hy hc (by decide) q hq rfl
  have hbox : ∀ q, q < N → q ≠ p → q < A2.heap.size → (W5.setCell ⟨p, 0, none⟩ v5).heap[q]? = A2.heap[q]? := fun q h1 h2 h3 => hfr.block q h3 fun h4 => by
    rcases h4 with rfl | h4
    · exact h2 rfl
    · have := (hrow q h4).1; omega
  have hb5 : W5.heap[p]? = some (.cells #[v] 31 (0, 0)) := (hg.block p (by simp; have := lt_of_block i1; omega) (fun e => by have := (hrow p e).1; omega)).trans ((Below.heap_alloc A2 _ p (lt_of_block i1)).trans i1)
  refine ⟨hk.1, hk.2, v5, L ++ [rc x], rv ++ [x], one_setCell hb5, ?_, ⟨?_, fun y hy => ?_⟩, ?_, by rw [List.length_append, i5]; rfl, hL, i7.trans (hfr.below i7.size (fun q hq => ?_)), by omega⟩
  · rw [hup]
    exact (hbox (p + 1) (by omega) (by omega) (by omega)).trans i2
  · rw [List.length_append]
    exact own_other ho fun q hq => heap_setCell_other W5 _ q _ (by have := (ho.lt q hq).1; show q ≠ p; omega)
  · rcases List.mem_append.1 hy with hy | hy
    · exact hu8 (i3.data y hy)
    · obtain rfl := List.mem_singleton.1 hy
      exact hu8 hx
  · rw [hup, List.map_append, i4]; rfl
  · rcases hq with rfl | hq
    · exact hp
    · have := (hrow q hq).1; omega
theorem results_two {fn : Func} {r1 r2 : Nat} (hres : fn.results = #[.tmp r1, .tmp r2]) (tmps : Array Value) (P : Program) (w : World) : (results fn tmps).run P w = .ok (.tuple #[tmps.getD r1 undef, tmps.getD r2 undef]) w := by
  simp only [results, hres]
  simp
theorem leaveX2 {fn : Func} {tmps : Array Value} {N D r1 r2 : Nat} {X : World} {v1 v2 : Value} {R : Ending → World → Prop} (hres : fn.results = #[.tmp r1, .tmp r2]) (ht1 : tmps.getD r1 undef = v1) (ht2 : tmps.getD r2 undef = v2) (hD : N ≤ D) (h : X.heap[D]? = some (.deferred (some []))) (hR : ∀ X', Calmly N X X' → R (.returned (.tuple #[v1, v2])) X') :
    LeavesInM Fence.wide 3 Tryd.prog fn tmps R [{ target := .collected D, args := #[] }] .returning X := by
  refine ⟨by simp, .inl ⟨D, _, rfl, run_takeDeferred h, ?_⟩⟩
  exact ⟨_, by rw [← ht1, ← ht2]; exact results_two hres _ _ _, hR _ (Calmly.but' (but_put D X (.deferred none)) hD h rfl)⟩
set_option maxRecDepth 20000 in
set_option maxHeartbeats 4000000 in
theorem records_any (g o cap k : Nat) (b : List UInt8) (w : World) (hb : IsB w (some ⟨g, o, none⟩) (64 * k) cap b) (hk : 1 ≤ k ∧ k ≤ 4096) (hn : Nibs w) :
    Calls Tryd.prog 56 #[.slice (some ⟨g, o, none⟩) (64 * k : Nat) cap] w fun e w' => ∃ v L rv, e = .returned (.tuple #[v, .bool (uf L).2]) ∧ Tells (cnt b k) L ∧ IsRs w.heap.size w' v rv ∧ rv.map rc = (uf L).1 ∧ Below w.heap.size w w' := by
  have hb0 : Below w.heap.size w ((w.alloc (.cells #[.slice none 0 0] 31)).alloc (.cells #[.bool false] 4)) := ((Below.refl _ _).alloc (Nat.le_refl _) _).alloc (by simp) _
  have hct := counting_any g o cap k b _ (hb.old hb0) hk
  have x1 : ((w.alloc (.cells #[.slice none 0 0] 31)).alloc (.cells #[.bool false] 4)).heap[w.heap.size]? = some (.cells #[.slice none 0 0] 31 (0, 0)) := heap_old ((Below.refl _ _).alloc (Nat.le_refl _) _) (heap_alloc_new w _)
  have x2 : ((w.alloc (.cells #[.slice none 0 0] 31)).alloc (.cells #[.bool false] 4)).heap[w.heap.size + 1]? = some (.cells #[.bool false] 4 (0, 0)) := by
    have := heap_alloc_new (w.alloc (.cells #[.slice none 0 0] 31)) (.cells #[.bool false] 4); rw [World.size_alloc] at this; exact this
  have HB := Lib.hid (And.intro hb0 (And.intro hct (And.intro x1 (And.intro x2 hn))))
  have hcl := cnt_len b k
  clear hb hb0 hct x1 x2 hn
  refine (callsIn_wide (n := 3)).1 ?_
  refine callsIn_of_wp_marks Tryd.func56 rfl trivial ?_ rfl
  simp only [Tryd.ntmps56, List.size_toArray, List.length_cons, List.length_nil, Nat.reduceAdd, Nat.reduceSub, Array.replicate_succ, Array.replicate_zero, List.push_toArray, List.append_toArray, List.nil_append, List.cons_append]
  refine wpIn_wide.2 ?_
  obtain ⟨C, hC⟩ : ∃ C, C = cnt b k := ⟨_, rfl⟩
  rw [← hC] at HB hcl ⊢
  clear hC
  go_wp2_with fail
  refine HB.out.2.1.mono ?_
  rintro e w1 ⟨v1, rfl, ho1, hb1⟩
  obtain ⟨a1, c1, rfl⟩ := own_shape ho1
  have hz1 := hb1.size
  simp only [World.size_alloc] at hz1 ho1
  have hib : IsB w1 a1 C.length c1 C := isB_of_own' ho1
  have H1 := Lib.hid (And.intro (HB.out.1.trans (hb1.mono (by simp; omega))) (And.intro (heap_old hb1 HB.out.2.2.1) (And.intro (heap_old hb1 HB.out.2.2.2.1) hib)))
  have HZ := Lib.hid hz1
  clear ho1 hb1 hib hz1
  go_wp2_with fail
  refine (scan_any 0 a1 C.length c1 C w1 H1.out.2.2.2 (by omega)).mono ?_
  rintro e w2 ⟨rfl, ac, cc, d1, d2, d3, d4, d5⟩
  have hb2 : Below w.heap.size w w2 := H1.out.1.trans (d4.mono H1.out.1.size)
  have hz1 := HZ.out
  have H2 := Lib.hid (And.intro hb2 (And.intro (heap_old d4 H1.out.2.1) (And.intro (heap_old d4 H1.out.2.2.1) (And.intro d1 (And.intro d2 (And.intro d3 d5))))))
  clear hb2 d1 d2 d3 d4
  go_wp2_with fail
  refine (wpIn_wide (n := 3)).1 ?_
  refine range_exit rfl (by omega) (gf := 62) (lb := #[.pointer (some ⟨w1.heap.size, 0, none⟩), .pointer (some ⟨w1.heap.size + 1, 0, none⟩)]) rfl trivial (enters_of Tryd.func62 (by kernel_rfl) rfl)
    (scan1_own (3 - 1) w.heap.size (w.heap.size + 2) w2.heap.size 0 ac C.length cc C w1.heap.size (w1.heap.size + 1) w2 U32.zero (Nat.le_refl _) ?hK).x (fun _ => rfl)
    (Rs w w2.heap.size w.heap.size C) (fun _ _ _ => False) (fun m X X' h hb => h.calm hb H2.out.1.size) (fun _ _ _ _ h _ => h) (fun _ _ _ h => h.elim) ?h0 (fun m x X X' h hb => ⟨h.1, h.2.1, h.2.2.1, own_below h.2.2.2 hb (Nat.le_refl _)⟩) (fun m x X X' l r h hl hb => ⟨h.1, h.2.1, h.2.2.1, (Calmly.but hb (Nat.zero_le _) hl).own h.2.2.2⟩) ?hround ?hdone ?hstop
  case hK =>
    intro W hm
    refine ⟨nibs_mid hm HB.out.2.2.2.2 (Nat.le_refl _) H2.out.1, isB_of_own' (own_mid hm H2.out.2.2.2.2.2.1 (by omega)), cell_mid hm H2.out.2.2.2.1 (.inr ?_), cell_mid hm H2.out.2.2.2.2.1 (.inr ?_)⟩
    · show w.heap.size + 2 ≤ w1.heap.size; omega
    · show w.heap.size + 2 ≤ w1.heap.size + 1; omega
  case h0 => exact ⟨_, [], [], H2.out.2.1, H2.out.2.2.1, ⟨World.ownsRow_nil _ _ _ _, by simp⟩, rfl, rfl, fun i h => absurd h (Nat.not_lt_zero i), H2.out.1, Nat.le_refl _⟩
  case hround =>
    rintro l m ⟨xat, xk, xd, xa, xco⟩ X hlB ⟨rr, hlr⟩ hI hG
    dsimp only [enc2]
    gi_wp2_with fail
    refine ⟨(Below.refl _ _).alloc (Nat.le_refl _) _, ?_⟩
    intro A2 hbut hI2 hG2
    have hlX := (Array.getElem?_eq_some_iff.1 hlr).1
    have x25 : A2.heap[X.heap.size]? = some (.cells #[.int .u8 (xk.toNat : Nat), .slice xa xd.length xco] 34 (0, 0)) := (hbut.2.2.2.2 _ (by omega)).trans (heap_alloc_new X _)
    have hXA : X.heap.size < A2.heap.size := by have := hbut.2.2.2.1; simp at this; omega
    obtain ⟨v, L, rv, i1, i2, i3, i4, i5, i6, i7, i8⟩ := hI2
    obtain ⟨g1, g2, g3, g4⟩ := hG2
    have hup := uf_snoc L (xk, xd)
    obtain ⟨U, hU⟩ : ∃ U, U = uf L := ⟨_, rfl⟩
    rw [← hU] at hup i2 i4
    have HUF := Lib.hid hU
    obtain ⟨acc, sl⟩ := U
    simp only at i2 i4 hup
    have hL' : ∀ i (h : i < (L ++ [(xk, xd)]).length), (Fm.at' C 0 i).2.2.2 = 0 ∧ (Fm.at' C 0 i).1 = (L ++ [(xk, xd)])[i] := fun i h => by
      rw [List.length_append, List.length_cons, List.length_nil] at h
      by_cases hi : i < L.length
      · rw [List.getElem_append_left hi]; exact i6 i hi
      · have e : i = m := by omega
        subst e
        refine ⟨g1, ?_⟩
        rw [List.getElem_append_right (by omega)]
        simp only [i5, Nat.sub_self, List.getElem_cons_zero]
        exact g3.symm
    obtain ⟨⟨y0, y1⟩, f0, f1⟩ := two_cells x25
    have y4 := cell_of_one i1
    have y5 := cell_of_one i2
    have z4 := free_of_one i1
    have z5 := free_of_one i2
    have HX := Lib.hid (And.intro i1 (And.intro i2 (And.intro i3 (And.intro i4 (And.intro i5 (And.intro hL' (And.intro i7 (And.intro i8 (And.intro hup (And.intro g4 hXA))))))))))
    clear i1 i2 i3 i4 i5 i6 i7 i8 hup hL' g1 g2 g3 g4 hI hG hU
    by_cases hs : sl = false ∧ xk = 255 ∧ xd = []
    · obtain ⟨rfl, rfl, rfl⟩ := hs
      gi_wp2_with fail
      have hfr : Fr (fun q => q = w.heap.size + 1) A2 (A2.setCell ⟨w.heap.size + 1, 0, none⟩ (.bool true)) := Fr.setCell (p := fun q => q = w.heap.size + 1) (Fr.refl _ A2) (.inl rfl) _
      have hk2 := fr_round (n₀ := w.heap.size) (n₁ := w.heap.size + 2) (B := w2.heap.size) hfr (fun q hq2 => .inl (by omega)) (by have := H2.out.2.2.2.2.2.2; omega) HX.out.2.2.2.2.2.2.2.1
      have hoth : ∀ q, q ≠ w.heap.size + 1 → (A2.setCell ⟨w.heap.size + 1, 0, none⟩ (.bool true)).heap[q]? = A2.heap[q]? := fun q hq => heap_setCell_other A2 _ q _ hq
      have hN : w.heap.size + 2 ≤ w2.heap.size := by have := H2.out.2.2.2.2.2.2; omega
      refine ⟨hk2.1, hk2.2, v, L ++ [(255, [])], rv, (hoth _ (by omega)).trans HX.out.1, ?_, ⟨own_other HX.out.2.2.1.own (fun q hq => hoth q (by have := (HX.out.2.2.1.own.lt q hq).1; omega)), fun x hx => own_other (HX.out.2.2.1.data x hx) (fun q hq => hoth q (by have := ((HX.out.2.2.1.data x hx).lt q hq).1; omega))⟩, ?_, by rw [List.length_append, HX.out.2.2.2.2.1]; rfl, HX.out.2.2.2.2.2.1, HX.out.2.2.2.2.2.2.1.trans (hfr.below HX.out.2.2.2.2.2.2.1.size (fun q hq2 => by omega)), by have := hfr.size; have := HX.out.2.2.2.2.2.2.2.1; omega⟩
      · rw [HX.out.2.2.2.2.2.2.2.2.1]
        exact one_setCell (u := .bool true) HX.out.2.1
      · rw [HX.out.2.2.2.2.2.2.2.2.1]
        exact HX.out.2.2.2.1
    · have hup2 : uf (L ++ [(xk, xd)]) = (acc ++ [(xk, xd)], sl) := by
        rw [HX.out.2.2.2.2.2.2.2.2.1]; unfold stp; rw [if_neg hs]
      have hrl : rv.length ≤ 225280 := by
        have h1 := uf_len L
        rw [← HUF.out] at h1
        rw [← HX.out.2.2.2.1, List.length_map] at h1
        have h2 := told_len (b := C) HX.out.2.2.2.2.2.1
        rw [List.length_append] at h2
        omega
      have HU := Lib.hid (And.intro hup2 hrl)
      obtain ⟨i0, hi, hz0, hz1', hz2⟩ := info_parts info34
      clear hup2 hrl
      cases sl
      · by_cases hk : xk = 255
        · have hl0 : ¬ (xd.length : Int) = 0 := by
            intro h
            exact hs ⟨rfl, hk, List.length_eq_zero_iff.1 (by omega)⟩
          subst hk
          clear hs
          gi_wp2_with (gi_at_builtin; refine wpListIn_append_own _ rfl _ _ 31 rfl w2.heap.size 34 i0 _ 2 32 Tryd.underlying31 hi hz0 hz1' hz2 (by rfl) (by decide) v rv.length (rcvs rv) rfl (own_below HX.out.2.2.1.own ((Below.refl _ _).alloc (Nat.le_refl _) _) (Nat.le_refl _)) ⟨A2.heap.size, 0, none⟩ 1 1 [_, _] rfl rfl (cell_two_new _ _ _ _) (by simp [Value.oneCell']) (by have := HU.out.2; unfold maxLen; omega) (by have := HU.out.2; omega) (by have := HX.out.2.2.2.2.2.2.2.1; simp; omega) ?_; intro v5 W5 hown5 hg5 _; obtain ⟨a5, cp5, rfl⟩ := own_shape hown5; have hS5 := (hg5.block w.heap.size (by simp; have := lt_of_block HX.out.1; omega) (fun e => own_not HX.out.2.2.1.own HX.out.1 (by decide) w.heap.size e.symm rfl)).trans ((Below.heap_alloc A2 _ w.heap.size (lt_of_block HX.out.1)).trans HX.out.1); have c5 := cell_of_one hS5; have f5 := free_of_one hS5)
          exact Rs_more (x := ⟨255, xa, xco, xd⟩) (Nat.le_refl _) (by have := H2.out.2.2.2.2.2.2; omega) HX.out.1 HX.out.2.1 HX.out.2.2.1 HX.out.2.2.2.1 HU.out.1 HX.out.2.2.2.2.1 HX.out.2.2.2.2.2.1 HX.out.2.2.2.2.2.2.1 HX.out.2.2.2.2.2.2.2.1 HX.out.2.2.2.2.2.2.2.2.2.1 hg5 (by rw [rcvs_app]; exact hown5)
        · have hk0 : ¬ (xk.toNat : Int) = 255 := fun h => hk (UInt8.toNat_inj.1 (show xk.toNat = 255 by omega))
          clear hs hk
          gi_wp2_with (gi_at_builtin; refine wpListIn_append_own _ rfl _ _ 31 rfl w2.heap.size 34 i0 _ 2 32 Tryd.underlying31 hi hz0 hz1' hz2 (by rfl) (by decide) v rv.length (rcvs rv) rfl (own_below HX.out.2.2.1.own ((Below.refl _ _).alloc (Nat.le_refl _) _) (Nat.le_refl _)) ⟨A2.heap.size, 0, none⟩ 1 1 [_, _] rfl rfl (cell_two_new _ _ _ _) (by simp [Value.oneCell']) (by have := HU.out.2; unfold maxLen; omega) (by have := HU.out.2; omega) (by have := HX.out.2.2.2.2.2.2.2.1; simp; omega) ?_; intro v5 W5 hown5 hg5 _; obtain ⟨a5, cp5, rfl⟩ := own_shape hown5; have hS5 := (hg5.block w.heap.size (by simp; have := lt_of_block HX.out.1; omega) (fun e => own_not HX.out.2.2.1.own HX.out.1 (by decide) w.heap.size e.symm rfl)).trans ((Below.heap_alloc A2 _ w.heap.size (lt_of_block HX.out.1)).trans HX.out.1); have c5 := cell_of_one hS5; have f5 := free_of_one hS5)
          exact Rs_more (x := ⟨xk, xa, xco, xd⟩) (Nat.le_refl _) (by have := H2.out.2.2.2.2.2.2; omega) HX.out.1 HX.out.2.1 HX.out.2.2.1 HX.out.2.2.2.1 HU.out.1 HX.out.2.2.2.2.1 HX.out.2.2.2.2.2.1 HX.out.2.2.2.2.2.2.1 HX.out.2.2.2.2.2.2.2.1 HX.out.2.2.2.2.2.2.2.2.2.1 hg5 (by rw [rcvs_app]; exact hown5)
      · clear hs
        gi_wp2_with (gi_at_builtin; refine wpListIn_append_own _ rfl _ _ 31 rfl w2.heap.size 34 i0 _ 2 32 Tryd.underlying31 hi hz0 hz1' hz2 (by rfl) (by decide) v rv.length (rcvs rv) rfl (own_below HX.out.2.2.1.own ((Below.refl _ _).alloc (Nat.le_refl _) _) (Nat.le_refl _)) ⟨A2.heap.size, 0, none⟩ 1 1 [_, _] rfl rfl (cell_two_new _ _ _ _) (by simp [Value.oneCell']) (by have := HU.out.2; unfold maxLen; omega) (by have := HU.out.2; omega) (by have := HX.out.2.2.2.2.2.2.2.1; simp; omega) ?_; intro v5 W5 hown5 hg5 _; obtain ⟨a5, cp5, rfl⟩ := own_shape hown5; have hS5 := (hg5.block w.heap.size (by simp; have := lt_of_block HX.out.1; omega) (fun e => own_not HX.out.2.2.1.own HX.out.1 (by decide) w.heap.size e.symm rfl)).trans ((Below.heap_alloc A2 _ w.heap.size (lt_of_block HX.out.1)).trans HX.out.1); have c5 := cell_of_one hS5; have f5 := free_of_one hS5)
        exact Rs_more (x := ⟨xk, xa, xco, xd⟩) (Nat.le_refl _) (by have := H2.out.2.2.2.2.2.2; omega) HX.out.1 HX.out.2.1 HX.out.2.2.1 HX.out.2.2.2.1 HU.out.1 HX.out.2.2.2.2.1 HX.out.2.2.2.2.2.1 HX.out.2.2.2.2.2.2.1 HX.out.2.2.2.2.2.2.2.1 HX.out.2.2.2.2.2.2.2.2.2.1 hg5 (by rw [rcvs_app]; exact hown5)
  case hdone =>
    intro D m2 X hD hS hI hK
    dsimp only
    obtain ⟨v, L, rv, i1, i2, i3, i4, i5, i6, i7, i8⟩ := hI
    have c4 := cell_of_one i1
    have c5 := cell_of_one i2
    have HX := Lib.hid (And.intro i3 (And.intro i4 (And.intro (show Tells C L from ⟨i6, by rw [i5]; exact hS⟩) (And.intro i7 (And.intro i8 (And.intro hK hD))))))
    clear i1 i2 i3 i4 i5 i6 i7 i8 hK hD hS
    go_wp2_with fail
    go_region
    all_goals
      go_wp2_with fail
      exact leaveX2 rfl rfl rfl HX.out.2.2.2.2.2.2 HX.out.2.2.2.2.2.1 fun X' hb => ⟨_, L, rv, rfl, HX.out.2.2.1, ⟨Joins.ownsRow_le (hb.own HX.out.1.own) H2.out.1.size, fun x hx => Joins.ownsRow_le (hb.own (HX.out.1.data x hx)) H2.out.1.size⟩, HX.out.2.1, HX.out.2.2.2.1.drew.trans (hb.below H2.out.1.size HX.out.2.2.2.2.1)⟩
  case hstop =>
    rintro D c m X hD h hK
    exact h.elim
end Go.Proofs.YtjblkmjdepdekaaDoor.Wl
