
/- logs: the bytes of a half -/
import Derived.Test.YtjblkmjdepdekaaDoorWl3
namespace Go.Proofs.YtjblkmjdepdekaaDoor.Wl
open Go.RowKit Go.Lib Go.Joins Go.Proofs.YtjblkmjdepdekaaDoor.By Go.Proofs.YtjblkmjdepdekaaDoor.Dk Go.Proofs.YtjblkmjdepdekaaDoor.Oc Go.Proofs.YtjblkmjdepdekaaDoor.Rg Go.Proofs.YtjblkmjdepdekaaDoor.Ht
attribute [local go_sem] Oper.semAt_some

/-- the bytes of a half of k sectors, of a turn, from the m-th sector on -/
def cnb (t : Nat) (b : List UInt8) (k : Nat) : Nat → Nat → List UInt8
  | 0, _ => []
  | f + 1, m => if m < k ∧ trn (getS b m) = t ∧ ctn (getS b m) ≤ 55 then ((getS b m).drop 9).take (ctn (getS b m)) ++ (if ctn (getS b m) < 55 then [] else cnb t b k f (m + 1)) else []
def cnt (b : List UInt8) (k : Nat) : List UInt8 := if trn b = 0 then [] else cnb (trn b) b k k 0
theorem cnb_end (t : Nat) (b : List UInt8) (k f : Nat) : cnb t b k f k = [] := by
  cases f
  · rfl
  · unfold cnb; rw [if_neg (by omega)]
theorem cnb_stop {t : Nat} {b : List UInt8} {k f m : Nat} (h : ¬ (trn (getS b m) = t ∧ ctn (getS b m) ≤ 55)) : cnb t b k f m = [] := by
  cases f
  · rfl
  · unfold cnb; rw [if_neg (fun h2 => h h2.2)]
theorem cnb_last {t : Nat} {b : List UInt8} {k f m : Nat} (hm : m < k) (h1 : trn (getS b m) = t) (h2 : ctn (getS b m) < 55) : cnb t b k (f + 1) m = ((getS b m).drop 9).take (ctn (getS b m)) := by
  rw [cnb, if_pos ⟨hm, h1, by omega⟩, if_pos h2, List.append_nil]
theorem cnb_more {t : Nat} {b : List UInt8} {k f m : Nat} (hm : m < k) (h1 : trn (getS b m) = t) (h2 : ctn (getS b m) = 55) : cnb t b k (f + 1) m = ((getS b m).drop 9).take 55 ++ cnb t b k f (m + 1) := by
  rw [cnb, if_pos ⟨hm, h1, by omega⟩, h2, if_neg (by omega)]
/-- what a loop over a half has so far: the box, a row of its own -/
def Cs (w : World) (p q t : Nat) (C : List UInt8) (b : List UInt8) (k m : Nat) (X : World) : Prop :=
  ∃ v l, X.heap[p]? = some (.cells #[.int .u64 (t : Nat)] 35 (0, 0)) ∧ X.heap[q]? = some (.cells #[v] 32 (0, 0)) ∧ X.ownsRow (q + 3) 5 1 v l.length (byteCells l) ∧ l ++ cnb t b k (k - m) m = C ∧ l.length ≤ 55 * m ∧ m ≤ k ∧ Below w.heap.size w X ∧ q + 2 < X.heap.size
def Ce (w : World) (q : Nat) (C : List UInt8) (X : World) : Prop :=
  ∃ v, X.heap[q]? = some (.cells #[v] 32 (0, 0)) ∧ X.ownsRow (q + 3) 5 1 v C.length (byteCells C) ∧ Below w.heap.size w X ∧ q + 2 < X.heap.size
theorem Cs.calm {w X X' : World} {p q t N : Nat} {C b : List UInt8} {k m : Nat} (h : Cs w p q t C b k m X) (hb : Calmly N X X') (hN : w.heap.size ≤ N) (hN2 : N ≤ X.heap.size) : Cs w p q t C b k m X' := by
  obtain ⟨v, l, h1, h2, h3, h4, h5, h6, h7, h8⟩ := h
  exact ⟨v, l, hb.cell h1, hb.cell h2, hb.own h3, h4, h5, h6, h7.trans (hb.below hN hN2), Nat.lt_of_lt_of_le h8 hb.size⟩
theorem Ce.calm {w X X' : World} {q N : Nat} {C : List UInt8} (h : Ce w q C X) (hb : Calmly N X X') (hN : w.heap.size ≤ N) (hN2 : N ≤ X.heap.size) : Ce w q C X' := by
  obtain ⟨v, h1, h2, h3, h4⟩ := h
  exact ⟨v, hb.cell h1, hb.own h2, h3.trans (hb.below hN hN2), Nat.lt_of_lt_of_le h4 hb.size⟩
/-- the activation is left, one mark and all -/
theorem leaveN {fn : Func} {tmps : Array Value} {r : Nat} {X : World} {v : Value} {R : Ending → World → Prop} (hres : fn.results = #[.tmp r]) (ht : tmps.getD r undef = v) (h : R (.returned v) X) :
    LeavesInM Fence.wide 3 Tryd.prog fn tmps R [] .returning X := ⟨_, by rw [← ht]; exact results_tmp hres _ _ _, h⟩
theorem leaveX {fn : Func} {tmps : Array Value} {N D r : Nat} {X : World} {v : Value} {R : Ending → World → Prop} (hres : fn.results = #[.tmp r]) (ht : tmps.getD r undef = v) (hD : N ≤ D) (h : X.heap[D]? = some (.deferred (some []))) (hR : ∀ X', Calmly N X X' → R (.returned v) X') :
    LeavesInM Fence.wide 3 Tryd.prog fn tmps R [{ target := .collected D, args := #[] }] .returning X := by
  refine ⟨by simp, .inl ⟨D, _, rfl, run_takeDeferred h, ?_⟩⟩
  exact ⟨_, by rw [← ht]; exact results_tmp hres _ _ _, hR _ (Calmly.but' (but_put D X (.deferred none)) hD h rfl)⟩
set_option maxRecDepth 20000 in
set_option maxHeartbeats 4000000 in
theorem counting_any (g o cap k : Nat) (b : List UInt8) (w : World) (hb : IsB w (some ⟨g, o, none⟩) (64 * k) cap b) (hk : 1 ≤ k ∧ k ≤ 4096) :
    Calls Tryd.prog 61 #[.slice (some ⟨g, o, none⟩) (64 * k : Nat) cap] w fun e w' => ∃ v, e = .returned v ∧ w'.ownsRow w.heap.size 5 1 v (cnt b k).length (byteCells (cnt b k)) ∧ Below w.heap.size w w' := by
  have hlb : b.length = 64 * k := hb.1
  have hcap : 64 * k ≤ cap ∧ cap ≤ 9223372036854775807 := by
    obtain ⟨h1, ⟨h2, _⟩ | ⟨x, h2, h3, h4, h5⟩⟩ := hb
    · cases h2
    · exact ⟨h3, by unfold maxLen at h4; omega⟩
  have htn := turnOf_any _ _ _ b w hb (by omega)
  have HB := Lib.hid (And.intro hb (And.intro hlb htn))
  refine (callsIn_wide (n := 3)).1 ?_
  refine callsIn_of_wp_marks Tryd.func61 rfl trivial ?_ rfl
  simp only [Tryd.ntmps61, List.size_toArray, List.length_cons, List.length_nil, Nat.reduceAdd, Nat.reduceSub, Array.replicate_succ, Array.replicate_zero, List.push_toArray, List.append_toArray, List.nil_append, List.cons_append]
  refine wpIn_wide.2 ?_
  clear hb hlb htn
  obtain ⟨t, ht⟩ : ∃ t, t = trn b := ⟨_, rfl⟩
  obtain ⟨C, hC⟩ : ∃ C, C = cnt b k := ⟨_, rfl⟩
  rw [← ht] at HB
  rw [← hC]
  have HC := Lib.hid (And.intro ht hC)
  clear ht hC
  by_cases h0 : t = 0
  · go_wp2_with (go_at_call 46; (with_reducible refine HB.out.2.2.mono ?_); rintro e w' ⟨rfl, rfl⟩)
    have hC0 : C = [] := by rw [HC.out.2]; unfold cnt; rw [if_pos (HC.out.1.symm.trans h0)]
    rw [hC0]
    exact leaveN rfl rfl ⟨_, rfl, World.ownsRow_nil _ _ _ _, (Below.refl _ _).alloc (Nat.le_refl _) _⟩
  · have h0I : ((t : Int) == 0) = false := by simp; omega
    have hCm : C = cnb t b k k 0 := by rw [HC.out.2]; unfold cnt; rw [if_neg (fun h => h0 (HC.out.1.trans h)), ← HC.out.1]
    go_wp2_with (go_at_call 46; (with_reducible refine HB.out.2.2.mono ?_); rintro e w' ⟨rfl, rfl⟩)
    refine (chunk_any _ _ _ 64 _ (by decide)).mono ?_
    rintro e w' ⟨rfl, rfl⟩
    obtain ⟨V, hV⟩ : ∃ V, V = (((w.alloc (.cells #[.int .u64 (t : Nat)] 35)).alloc (.cells #[.slice none 0 0] 32)).alloc (.cells #[.slice (some ⟨g, o, none⟩) (64 * k) cap] 32)).alloc (.cells #[.int .i64 64] 3) := ⟨_, rfl⟩
    have hbV : Below w.heap.size w V := by rw [hV]; exact ((((Below.refl _ _).alloc (Nat.le_refl _) _).alloc (by simp) _).alloc (by simp; omega) _).alloc (by simp; omega) _
    have hzV : V.heap.size = w.heap.size + 4 := by rw [hV]; simp
    have g0 : V.heap[w.heap.size]? = some (.cells #[.int .u64 (t : Nat)] 35 (0, 0)) := by
      rw [hV]; exact heap_old ((Below.refl _ _).alloc (Nat.le_refl _) _) (heap_old ((Below.refl _ _).alloc (Nat.le_refl _) _) (heap_old ((Below.refl _ _).alloc (Nat.le_refl _) _) (heap_alloc_new w _)))
    have g1 : V.heap[w.heap.size + 1]? = some (.cells #[.slice none 0 0] 32 (0, 0)) := by
      have := heap_alloc_new (w.alloc (.cells #[.int .u64 (t : Nat)] 35)) (.cells #[.slice none 0 0] 32)
      rw [World.size_alloc] at this
      rw [hV]; exact heap_old ((Below.refl _ _).alloc (Nat.le_refl _) _) (heap_old ((Below.refl _ _).alloc (Nat.le_refl _) _) this)
    have g2 : V.heap[w.heap.size + 1 + 1]? = some (.cells #[.slice (some ⟨g, o, none⟩) (64 * k) cap] 32 (0, 0)) := by
      have := heap_alloc_new ((w.alloc (.cells #[.int .u64 (t : Nat)] 35)).alloc (.cells #[.slice none 0 0] 32)) (.cells #[.slice (some ⟨g, o, none⟩) (64 * k) cap] 32)
      rw [World.size_alloc, World.size_alloc] at this
      rw [hV]; exact heap_old ((Below.refl _ _).alloc (Nat.le_refl _) _) this
    have g3 : V.heap[w.heap.size + 1 + 1 + 1]? = some (.cells #[.int .i64 64] 3 (0, 0)) := by
      have := heap_alloc_new (((w.alloc (.cells #[.int .u64 (t : Nat)] 35)).alloc (.cells #[.slice none 0 0] 32)).alloc (.cells #[.slice (some ⟨g, o, none⟩) (64 * k) cap] 32)) (.cells #[.int .i64 64] 3)
      rw [World.size_alloc, World.size_alloc, World.size_alloc] at this
      rw [hV]; exact this
    go_wp2_with fail
    rw [← hV]
    have HV := Lib.hid (And.intro hbV (And.intro hzV (And.intro g0 (And.intro g1 (And.intro g2 g3)))))
    have HC2 := Lib.hid hCm
    clear hV hbV hzV g0 g1 g2 g3 hCm
    refine (wpIn_wide (n := 3)).1 ?_
    refine range_exit rfl (by omega) (gf := 57) (lb := #[.pointer (some ⟨w.heap.size + 1 + 1, 0, none⟩), .pointer (some ⟨w.heap.size + 1 + 1 + 1, 0, none⟩)]) rfl trivial (enters_of Tryd.func57 (by kernel_rfl) rfl)
      (chunk1_iter (3 - 1) 0 (w.heap.size + 1 + 1) 64 g o (64 * k) cap (w.heap.size + 1 + 1) (w.heap.size + 1 + 1 + 1) V (by decide) ⟨hcap.1, by omega, hcap.2⟩ ?hK) (fun _ => rfl)
      (fun m X => Cs w w.heap.size (w.heap.size + 1) t C b k m X ∧ V.heap.size ≤ X.heap.size) (fun c _ X => c = .exit 0 ∧ Ce w (w.heap.size + 1) C X ∧ V.heap.size ≤ X.heap.size) (fun m X X' h hb => ⟨h.1.calm hb HV.out.1.size h.2, Nat.le_trans h.2 hb.size⟩) (fun c m X X' h hb => ⟨h.1, h.2.1.calm hb HV.out.1.size h.2.2, Nat.le_trans h.2.2 hb.size⟩) (fun _ _ _ _ => rfl) ?h0 (fun m x X X' h hb => h) (fun m x X X' l r h hl hb => h) ?hround ?hdone ?hstop
    case hK =>
      intro W hm
      exact ⟨cell_of_one ((hm.block _ (.inr (Nat.le_refl _)) (by have := HV.out.2.1; omega)).trans HV.out.2.2.2.2.1), cell_of_one ((hm.block _ (.inr (Nat.le_succ _)) (by have := HV.out.2.1; omega)).trans HV.out.2.2.2.2.2)⟩
    case h0 => exact ⟨⟨_, [], HV.out.2.2.1, HV.out.2.2.2.1, World.ownsRow_nil _ _ _ _, by rw [HC2.out]; rfl, Nat.zero_le _, Nat.zero_le _, HV.out.1, by have := HV.out.2.1; omega⟩, Nat.le_refl _⟩
    case hround =>
      rintro l m x X hlB ⟨rr, hlr⟩ hI hG
      dsimp only [encC]
      obtain ⟨hmk, rfl⟩ := part_sec hG
      gi_wp2_with fail
      refine ⟨Below.refl _ _, ?_⟩
      intro A2 hbut hI2 hG2
      have hbw : Below w.heap.size w A2 := by obtain ⟨⟨v, l0, h1, h2, h3, h4, h5, h6, h7, h8⟩, h9⟩ := hI2; exact h7
      have hb1 : A2.heap[w.heap.size]? = some (.cells #[.int .u64 (t : Nat)] 35 (0, 0)) := by obtain ⟨⟨v, l0, h1, h2, h3, h4, h5, h6, h7, h8⟩, h9⟩ := hI2; exact h1
      have hib := isB_sec (HB.out.1.old hbw) hmk
      have hul := length_getS HB.out.2.1 hmk
      obtain ⟨x8, hx8, hc8⟩ := hib.at (k := 8) (by omega)
      obtain rfl := Option.some.inj hx8
      rw [add_lit] at hc8
      obtain ⟨n, hn⟩ : ∃ n, n = ctn (getS b m) := ⟨_, rfl⟩
      obtain ⟨T, hT⟩ : ∃ T, T = trn (getS b m) := ⟨_, rfl⟩
      have hn8 : (getS b m)[8].toNat = n := by rw [hn]; unfold ctn; rw [List.getD_eq_getElem?_getD, List.getElem?_eq_getElem (by omega)]; rfl
      have hn256 : n < 256 := by rw [← hn8]; exact UInt8.toNat_lt _
      rw [hn8] at hc8
      have htn := turnOf_any _ 64 64 (getS b m) A2.drew (hib.old (Below.refl _ _).drew) (by rw [hul]; decide)
      rw [← hT] at htn
      have HX := Lib.hid (And.intro hb1 (And.intro hib (And.intro hI2.1 (And.intro htn hI2.2))))
      have HN := Lib.hid (And.intro hn (And.intro hT hul))
      have hmix : Tryd.prog.follows .mixedOrders = true := by kernel_rfl
      have hn0 : (0 : Int) ≤ (n : Int) := by omega
      clear hbw hb1 hib hul hn8 htn hI2 hT hn
      by_cases hTt : T = t
      · have hTt' : t = T := hTt.symm
        subst hTt'
        by_cases hn55 : n ≤ 55
        · have hnI : ¬ (n : Int) > 55 := by omega
          gi_wp2_with fail
          refine begin_round 7 (fun Y => Y.heap[w.heap.size]? = some (.cells #[.int .u64 (t : Nat)] 35 (0, 0))) hmix (by kernel_rfl) HX.out.1 (fun hS0 => ?_)
          refine Ht.take (i := 0) ⟨some 18, _, _, _, _, _⟩ (.slice (some ⟨g, o + 64 * m, none⟩) 64 64) rfl (by kernel_rfl) (by kernel_rfl) (by decide) (by kernel_rfl) (by kernel_rfl) (by kernel_rfl) hS0 (Or.inl ⟨by rfl, by (intro X hX; go_simp)⟩) ?_
          simp only [Act.put, List.setIfInBounds_toArray, List.set_cons_zero, List.set_cons_succ]
          refine Ht.take (i := 2) ⟨some 20, _, _, _, _, _⟩ (.int .u64 (t : Nat)) rfl (by kernel_rfl) (by kernel_rfl) (by decide) (by kernel_rfl) (by kernel_rfl) (by kernel_rfl) hS0 (Or.inl ⟨by rfl, by (intro X hX; have := cell_of_one hX; go_simp)⟩) ?_
          simp only [Act.put, List.setIfInBounds_toArray, List.set_cons_zero, List.set_cons_succ]
          refine Ht.step (i := 1) ⟨some 19, _, _, _, _, _⟩ rfl (by kernel_rfl) (by rfl) (fun K hK => ?_)
          refine Ht.enter 46 #[.slice (some ⟨g, o + 64 * m, none⟩) 64 64] (by have hen := fun args w => enters_of (P := Tryd.prog) Tryd.func46 (by kernel_rfl) rfl args w; go_simp) HX.out.2.2.2.1 ?_
          rintro e W1 ⟨rfl, rfl⟩
          refine ⟨_, rfl, hK _ _ (fun _ => hS0) (fun _ => ?_)⟩
          clear hK K
          simp only [Act.put, List.setIfInBounds_toArray, List.set_cons_zero, List.set_cons_succ]
          refine Ht.take (i := 3) ⟨some 21, _, _, _, _, _⟩ (.bool false) rfl (by kernel_rfl) (by kernel_rfl) (by decide) (by kernel_rfl) (by kernel_rfl) (by kernel_rfl) hS0 (Or.inl ⟨by rfl, by (intro X hX; go_simp)⟩) ?_
          simp only [Act.put, List.setIfInBounds_toArray, List.set_cons_zero, List.set_cons_succ]
          refine Ht.take (i := 4) ⟨some 22, _, _, _, _, _⟩ (.bool false) rfl (by kernel_rfl) (by kernel_rfl) (by decide) (by kernel_rfl) (by kernel_rfl) (by kernel_rfl) hS0 (Or.inl ⟨by rfl, by (intro X hX; go_simp)⟩) ?_
          simp only [Act.put, List.setIfInBounds_toArray, List.set_cons_zero, List.set_cons_succ]
          refine Ht.take (i := 5) ⟨some 23, _, _, _, _, _⟩ (.int .i64 (n : Nat)) rfl (by kernel_rfl) (by kernel_rfl) (by decide) (by kernel_rfl) (by kernel_rfl) (by kernel_rfl) hS0 (Or.inl ⟨by rfl, by (intro X hX; go_simp)⟩) ?_
          simp only [Act.put, List.setIfInBounds_toArray, List.set_cons_zero, List.set_cons_succ]
          refine Ht.take (i := 6) ⟨some 24, _, _, _, _, _⟩ (.bool false) rfl (by kernel_rfl) (by kernel_rfl) (by decide) (by kernel_rfl) (by kernel_rfl) (by kernel_rfl) hS0 (Or.inl ⟨by rfl, by (intro X hX; go_simp)⟩) ?_
          simp only [Act.put, List.setIfInBounds_toArray, List.set_cons_zero, List.set_cons_succ]
          refine Ht.step (i := 7) ⟨some 25, _, _, _, _, _⟩ rfl (by kernel_rfl) (by rfl) (fun K hK => ?_)
          go_simp
          refine hK _ _ (fun h => absurd rfl h) (fun _ => ?_)
          clear hK K
          refine done (by kernel_rfl) ?_
          gi_wp2_with fail
          obtain ⟨v, l0, h1, h2, h3, h4, h5, h6, h7, h8⟩ := HX.out.2.2.1
          obtain ⟨R, hR⟩ : ∃ R, R = ((getS b m).drop 9).take n := ⟨_, rfl⟩
          have hRl : R.length = n := by rw [hR, List.length_take, List.length_drop, HN.out.2.2]; omega
          have hnews : ∀ j u, (byteCells R)[j]? = some u → A2.drew.cell? ((⟨g, o + 64 * m + 9, none⟩ : Addr).add j) = some u := by
            have h := Fm.IsB.sub (HX.out.2.1.old (Below.refl _ _).drew) (i := 9) (j := 9 + n) (by omega) (by omega)
            obtain ⟨_, ⟨h, _⟩ | ⟨x, hx, _, _, hh⟩⟩ := h
            · cases h
            · obtain rfl := Option.some.inj hx
              intro j u hu
              refine hh j u ?_
              rw [List.drop_take, show 9 + n - 9 = n by omega, ← hR]
              exact hu
          have z1 : IntKind.i64.wrap (9 + (n : Int)) = 9 + (n : Int) := IntWalk.i64_in _ (by omega)
          have z2 : (0 : Int) ≤ 9 + (n : Int) := by omega
          have z3 : 9 + (n : Int) ≤ 64 := by omega
          have z4 : (9 : Int) ≤ max (9 + (n : Int)) 0 := by omega
          have z5 : (9 + (n : Int)).toNat - 9 = n := by omega
          have HS := Lib.hid (And.intro h1 (And.intro h2 (And.intro h3 (And.intro h4 (And.intro h5 (And.intro h6 (And.intro h7 h8)))))))
          have HR := Lib.hid (And.intro hR (And.intro hRl hnews))
          obtain ⟨i0, hi, hz0, hz1, hz2⟩ := info_parts info5
          clear h1 h2 h3 h4 h5 h6 h7 h8 hR hRl hnews
          refine begin_round 6 (fun Y => Y.heap[w.heap.size + 1]? = some (.cells #[v] 32 (0, 0))) hmix (by kernel_rfl) HS.out.2.1 (fun hS0 => ?_)
          refine Ht.take (i := 0) ⟨some 26, _, _, _, _, _⟩ (v) rfl (by kernel_rfl) (by kernel_rfl) (by decide) (by kernel_rfl) (by kernel_rfl) (by kernel_rfl) hS0 (Or.inl ⟨by rfl, by (intro X hX; have := cell_of_one hX; go_simp)⟩) ?_
          simp only [Act.put, List.setIfInBounds_toArray, List.set_cons_zero, List.set_cons_succ]
          refine Ht.take (i := 1) ⟨some 27, _, _, _, _, _⟩ (.slice (some ⟨g, o + 64 * m, none⟩) 64 64) rfl (by kernel_rfl) (by kernel_rfl) (by decide) (by kernel_rfl) (by kernel_rfl) (by kernel_rfl) hS0 (Or.inl ⟨by rfl, by (intro X hX; go_simp)⟩) ?_
          simp only [Act.put, List.setIfInBounds_toArray, List.set_cons_zero, List.set_cons_succ]
          refine Ht.take (i := 2) ⟨some 28, _, _, _, _, _⟩ (.int .i64 (n : Nat)) rfl (by kernel_rfl) (by kernel_rfl) (by decide) (by kernel_rfl) (by kernel_rfl) (by kernel_rfl) hS0 (Or.inl ⟨by rfl, by (intro X hX; go_simp)⟩) ?_
          simp only [Act.put, List.setIfInBounds_toArray, List.set_cons_zero, List.set_cons_succ]
          refine Ht.take (i := 3) ⟨some 29, _, _, _, _, _⟩ (.int .i64 (9 + (n : Int))) rfl (by kernel_rfl) (by kernel_rfl) (by decide) (by kernel_rfl) (by kernel_rfl) (by kernel_rfl) hS0 (Or.inl ⟨by rfl, by (intro X hX; go_simp)⟩) ?_
          simp only [Act.put, List.setIfInBounds_toArray, List.set_cons_zero, List.set_cons_succ]
          refine Ht.take (i := 4) ⟨some 30, _, _, _, _, _⟩ (.slice (some ⟨g, o + 64 * m + 9, none⟩) n 55) rfl (by kernel_rfl) (by kernel_rfl) (by decide) (by kernel_rfl) (by kernel_rfl) (by kernel_rfl) hS0 (Or.inl ⟨by rfl, by (intro X hX; go_simp)⟩) ?_
          simp only [Act.put, List.setIfInBounds_toArray, List.set_cons_zero, List.set_cons_succ]
          refine Ht.step (i := 5) ⟨some 31, _, _, _, _, _⟩ rfl (by kernel_rfl) (by rfl) (fun K hK => ?_)
          refine Ao.wp_append_own_new _ _ _ 32 rfl (w.heap.size + 1 + 3) 5 i0 _ 1 1 Tryd.underlying32 hi hz0 hz1 hz2 (by rfl) (by decide) v l0.length (byteCells l0) rfl (own_other HS.out.2.2.1 (fun _ _ => rfl)) ⟨g, o + 64 * m + 9, none⟩ n 55 (byteCells R) rfl (by simp [byteCells, HR.out.2.1]) HR.out.2.2 (bytes_one R) ?n1 ?n2 ?n3 ?_
          case n1 => have := HS.out.2.2.2.2.1; unfold maxLen; omega
          case n2 => have := HS.out.2.2.2.2.1; omega
          case n3 => have := HS.out.2.2.2.2.2.2.2; simp; omega
          intro v5 W5 hown5 hg5 hnew5
          have hbx5 : ∀ q (C0 : Array Value) (t0 : TypeId), 5 ≠ t0 → A2.heap[q]? = some (Obj.cells C0 t0 (0, 0)) → W5.heap[q]? = some (Obj.cells C0 t0 (0, 0)) := fun q C0 t0 hne hq =>
            (hg5.block q (lt_of_block hq) (fun e => own_not HS.out.2.2.1 hq hne q e.symm rfl)).trans hq
          have hS5 := hbx5 _ _ _ (by decide) HS.out.2.1
          refine hK _ _ (fun _ => hS5) (fun _ => ?_)
          clear hK K
          simp only [Act.put, List.setIfInBounds_toArray, List.set_cons_zero, List.set_cons_succ]
          refine Ht.step (i := 6) ⟨none, _, _, _, _, _⟩ rfl (by kernel_rfl) (by rfl) (fun K hK => ?_)
          have c5 := cell_of_one hS5
          have f5 := free_of_one hS5
          obtain ⟨a5, cp5, rfl⟩ := own_shape hown5
          go_simp
          refine hK _ _ (fun h => absurd rfl h) (fun _ => ?_)
          clear hK K
          refine done (by kernel_rfl) ?_
          have hlen : (l0 ++ R).length = l0.length + n := by rw [List.length_append, HR.out.2.1]
          have hq := HS.out.2.2.2.2.2.2.2
          have hown6 : (W5.setCell ⟨w.heap.size + 1, 0, none⟩ (.slice a5 (l0.length + n) cp5)).ownsRow (w.heap.size + 1 + 3) 5 1 (.slice a5 (l0.length + n) cp5) (l0 ++ R).length (byteCells (l0 ++ R)) := by
            rw [hlen, byteCells_append]
            exact own_other hown5 (fun q hq2 => heap_setCell_other W5 _ q _ (by have := (hown5.lt q hq2).1; show q ≠ w.heap.size + 1; omega))
          have hfr : Fr (fun q => q = w.heap.size + 1 ∨ some q = v.ownBlock) A2 (W5.setCell ⟨w.heap.size + 1, 0, none⟩ (.slice a5 (l0.length + n) cp5)) :=
            Fr.setCell (show Fr (fun q => q = w.heap.size + 1 ∨ some q = v.ownBlock) A2 W5 from ⟨hg5.os, hg5.tape, hg5.output, hg5.size, fun q h1 h2 => hg5.block q h1 (fun e => h2 (.inr e))⟩) (.inl (.inl rfl)) _
          have hk2 := fr_round (n₀ := 0) (n₁ := w.heap.size + 1 + 1) (B := V.heap.size) hfr (fun q hq2 => by
            rcases hq2 with rfl | hq2
            · exact .inl ⟨Nat.zero_le _, Nat.lt_succ_self _⟩
            · have h1 := (HS.out.2.2.1.lt q hq2.symm).1
              refine .inr ⟨by have := HV.out.2.1; omega, fun o2 ho2 => ?_⟩
              obtain ⟨cur, hc⟩ := own_type HS.out.2.2.1 hq2.symm
              rw [hc] at ho2
              obtain rfl := Option.some.inj ho2
              rfl) (by have := HV.out.2.1; omega) HX.out.2.2.2.2
          have hbx6 := one_setCell (u := .slice a5 (l0.length + n) cp5) hS5
          have hb6 : Below w.heap.size w (W5.setCell ⟨w.heap.size + 1, 0, none⟩ (.slice a5 (l0.length + n) cp5)) := HS.out.2.2.2.2.2.2.1.trans (hfr.below HS.out.2.2.2.2.2.2.1.size (fun q hq2 => by
            rcases hq2 with rfl | hq2
            · omega
            · have h1 := (HS.out.2.2.1.lt q hq2.symm).1; omega))
          have hz6 := hfr.size
          by_cases hlt : n < 55
          · have hltI : (n : Int) < 55 := by omega
            have hCe : l0 ++ R = C := by
              rw [← HS.out.2.2.2.1, show k - m = (k - (m + 1)) + 1 by omega, cnb_last hmk HN.out.2.1.symm (by rw [← HN.out.1]; exact hlt), HR.out.1, HN.out.1]
            rw [hCe] at hown6
            have HF := Lib.hid (And.intro hk2.1 (And.intro hbx6 (And.intro hown6 (And.intro hb6 hz6))))
            clear hk2 hbx6 hown6 hb6 hz6 hfr hCe hlen hbx5 hS5 hown5 hg5 hnew5 z1 z2 z3 z4 z5 hi hz0 hz1 hz2 hS0
            gi_wp2_with fail
            exact ⟨HF.out.1, rfl, ⟨_, HF.out.2.1, HF.out.2.2.1, HF.out.2.2.2.1, by have := HF.out.2.2.2.2; omega⟩, Nat.le_trans HX.out.2.2.2.2 HF.out.2.2.2.2⟩
          · have hltI : ¬ (n : Int) < 55 := by omega
            have hCe : (l0 ++ R) ++ cnb t b k (k - (m + 1)) (m + 1) = C := by
              rw [← HS.out.2.2.2.1, show k - m = (k - (m + 1)) + 1 by omega, cnb_more hmk HN.out.2.1.symm (by rw [← HN.out.1]; omega), HR.out.1, List.append_assoc, show n = 55 by omega]
            have hb1 : (W5.setCell ⟨w.heap.size + 1, 0, none⟩ (.slice a5 (l0.length + n) cp5)).heap[w.heap.size]? = some (.cells #[.int .u64 (t : Nat)] 35 (0, 0)) := (heap_setCell_other W5 _ _ _ (by show w.heap.size ≠ w.heap.size + 1; omega)).trans (hbx5 _ _ _ (by decide) HS.out.1)
            have HF := Lib.hid (And.intro hk2 (And.intro hbx6 (And.intro hown6 (And.intro hb6 (And.intro hz6 (And.intro hCe (And.intro hb1 hlen)))))))
            clear hk2 hbx6 hown6 hb6 hz6 hfr hCe hlen hbx5 hS5 hown5 hg5 hnew5 z1 z2 z3 z4 z5 hi hz0 hz1 hz2 hS0 hb1
            gi_wp2_with fail
            exact ⟨HF.out.1.1, HF.out.1.2, ⟨_, _, HF.out.2.2.2.2.2.2.1, HF.out.2.1, HF.out.2.2.1, HF.out.2.2.2.2.2.1, by have := HF.out.2.2.2.2.2.2.2; have := HS.out.2.2.2.2.1; omega, hmk, HF.out.2.2.2.1, by have := HF.out.2.2.2.2.1; omega⟩, Nat.le_trans HX.out.2.2.2.2 HF.out.2.2.2.2.1⟩
        · have hnI : (n : Int) > 55 := by omega
          have hno : ¬ (trn (getS b m) = t ∧ ctn (getS b m) ≤ 55) := by rw [← HN.out.1]; omega
          have HNO := Lib.hid hno
          clear hno
          gi_wp2_with fail
          refine begin_round 7 (fun Y => Y.heap[w.heap.size]? = some (.cells #[.int .u64 (t : Nat)] 35 (0, 0))) hmix (by kernel_rfl) HX.out.1 (fun hS0 => ?_)
          refine Ht.take (i := 0) ⟨some 18, _, _, _, _, _⟩ (.slice (some ⟨g, o + 64 * m, none⟩) 64 64) rfl (by kernel_rfl) (by kernel_rfl) (by decide) (by kernel_rfl) (by kernel_rfl) (by kernel_rfl) hS0 (Or.inl ⟨by rfl, by (intro X hX; go_simp)⟩) ?_
          simp only [Act.put, List.setIfInBounds_toArray, List.set_cons_zero, List.set_cons_succ]
          refine Ht.take (i := 2) ⟨some 20, _, _, _, _, _⟩ (.int .u64 (t : Nat)) rfl (by kernel_rfl) (by kernel_rfl) (by decide) (by kernel_rfl) (by kernel_rfl) (by kernel_rfl) hS0 (Or.inl ⟨by rfl, by (intro X hX; have := cell_of_one hX; go_simp)⟩) ?_
          simp only [Act.put, List.setIfInBounds_toArray, List.set_cons_zero, List.set_cons_succ]
          refine Ht.step (i := 1) ⟨some 19, _, _, _, _, _⟩ rfl (by kernel_rfl) (by rfl) (fun K hK => ?_)
          refine Ht.enter 46 #[.slice (some ⟨g, o + 64 * m, none⟩) 64 64] (by have hen := fun args w => enters_of (P := Tryd.prog) Tryd.func46 (by kernel_rfl) rfl args w; go_simp) HX.out.2.2.2.1 ?_
          rintro e W1 ⟨rfl, rfl⟩
          refine ⟨_, rfl, hK _ _ (fun _ => hS0) (fun _ => ?_)⟩
          clear hK K
          simp only [Act.put, List.setIfInBounds_toArray, List.set_cons_zero, List.set_cons_succ]
          refine Ht.take (i := 3) ⟨some 21, _, _, _, _, _⟩ (.bool false) rfl (by kernel_rfl) (by kernel_rfl) (by decide) (by kernel_rfl) (by kernel_rfl) (by kernel_rfl) hS0 (Or.inl ⟨by rfl, by (intro X hX; go_simp)⟩) ?_
          simp only [Act.put, List.setIfInBounds_toArray, List.set_cons_zero, List.set_cons_succ]
          refine Ht.take (i := 4) ⟨some 22, _, _, _, _, _⟩ (.bool false) rfl (by kernel_rfl) (by kernel_rfl) (by decide) (by kernel_rfl) (by kernel_rfl) (by kernel_rfl) hS0 (Or.inl ⟨by rfl, by (intro X hX; go_simp)⟩) ?_
          simp only [Act.put, List.setIfInBounds_toArray, List.set_cons_zero, List.set_cons_succ]
          refine Ht.take (i := 5) ⟨some 23, _, _, _, _, _⟩ (.int .i64 (n : Nat)) rfl (by kernel_rfl) (by kernel_rfl) (by decide) (by kernel_rfl) (by kernel_rfl) (by kernel_rfl) hS0 (Or.inl ⟨by rfl, by (intro X hX; go_simp)⟩) ?_
          simp only [Act.put, List.setIfInBounds_toArray, List.set_cons_zero, List.set_cons_succ]
          refine Ht.take (i := 6) ⟨some 24, _, _, _, _, _⟩ (.bool true) rfl (by kernel_rfl) (by kernel_rfl) (by decide) (by kernel_rfl) (by kernel_rfl) (by kernel_rfl) hS0 (Or.inl ⟨by rfl, by (intro X hX; go_simp)⟩) ?_
          simp only [Act.put, List.setIfInBounds_toArray, List.set_cons_zero, List.set_cons_succ]
          refine Ht.step (i := 7) ⟨some 25, _, _, _, _, _⟩ rfl (by kernel_rfl) (by rfl) (fun K hK => ?_)
          go_simp
          refine hK _ _ (fun h => absurd rfl h) (fun _ => ?_)
          clear hK K
          refine done (by kernel_rfl) ?_
          have hno := HNO.out
          gi_wp2_with fail
          have hfr : Fr (fun _ => False) A2 A2.drew := fr_drew A2
          have hk2 := fr_round (n₀ := 0) (n₁ := w.heap.size + 1 + 1) (B := V.heap.size) hfr (fun _ h => h.elim) (by have := HV.out.2.1; omega) HX.out.2.2.2.2
          have hCs := HX.out.2.2.1
          refine ⟨hk2.1, rfl, ?_, HX.out.2.2.2.2⟩
          obtain ⟨v, l0, h1, h2, h3, h4, h5, h6, h7, h8⟩ := hCs
          rw [cnb_stop hno, List.append_nil] at h4
          subst h4
          exact ⟨v, h2, own_other h3 (fun _ _ => rfl), h7.trans ((Below.refl _ _).drew.mono h7.size), h8⟩
      · have hneI : ¬ (T : Int) = (t : Int) := by omega
        have hno : ¬ (trn (getS b m) = t ∧ ctn (getS b m) ≤ 55) := by rw [← HN.out.2.1]; exact fun h => hTt h.1
        have HNO := Lib.hid hno
        clear hno
        gi_wp2_with fail
        refine begin_round 7 (fun Y => Y.heap[w.heap.size]? = some (.cells #[.int .u64 (t : Nat)] 35 (0, 0))) hmix (by kernel_rfl) HX.out.1 (fun hS0 => ?_)
        refine Ht.take (i := 0) ⟨some 18, _, _, _, _, _⟩ (.slice (some ⟨g, o + 64 * m, none⟩) 64 64) rfl (by kernel_rfl) (by kernel_rfl) (by decide) (by kernel_rfl) (by kernel_rfl) (by kernel_rfl) hS0 (Or.inl ⟨by rfl, by (intro X hX; go_simp)⟩) ?_
        simp only [Act.put, List.setIfInBounds_toArray, List.set_cons_zero, List.set_cons_succ]
        refine Ht.take (i := 2) ⟨some 20, _, _, _, _, _⟩ (.int .u64 (t : Nat)) rfl (by kernel_rfl) (by kernel_rfl) (by decide) (by kernel_rfl) (by kernel_rfl) (by kernel_rfl) hS0 (Or.inl ⟨by rfl, by (intro X hX; have := cell_of_one hX; go_simp)⟩) ?_
        simp only [Act.put, List.setIfInBounds_toArray, List.set_cons_zero, List.set_cons_succ]
        refine Ht.step (i := 1) ⟨some 19, _, _, _, _, _⟩ rfl (by kernel_rfl) (by rfl) (fun K hK => ?_)
        refine Ht.enter 46 #[.slice (some ⟨g, o + 64 * m, none⟩) 64 64] (by have hen := fun args w => enters_of (P := Tryd.prog) Tryd.func46 (by kernel_rfl) rfl args w; go_simp) HX.out.2.2.2.1 ?_
        rintro e W1 ⟨rfl, rfl⟩
        refine ⟨_, rfl, hK _ _ (fun _ => hS0) (fun _ => ?_)⟩
        clear hK K
        simp only [Act.put, List.setIfInBounds_toArray, List.set_cons_zero, List.set_cons_succ]
        refine Ht.take (i := 3) ⟨some 21, _, _, _, _, _⟩ (.bool true) rfl (by kernel_rfl) (by kernel_rfl) (by decide) (by kernel_rfl) (by kernel_rfl) (by kernel_rfl) hS0 (Or.inl ⟨by rfl, by (intro X hX; go_simp)⟩) ?_
        simp only [Act.put, List.setIfInBounds_toArray, List.set_cons_zero, List.set_cons_succ]
        refine Ht.take (i := 4) ⟨some 22, _, _, _, _, _⟩ (.bool true) rfl (by kernel_rfl) (by kernel_rfl) (by decide) (by kernel_rfl) (by kernel_rfl) (by kernel_rfl) hS0 (Or.inl ⟨by rfl, by (intro X hX; go_simp)⟩) ?_
        simp only [Act.put, List.setIfInBounds_toArray, List.set_cons_zero, List.set_cons_succ]
        refine Ht.take (i := 5) ⟨some 23, _, _, _, _, _⟩ (undef) rfl (by kernel_rfl) (by kernel_rfl) (by decide) (by kernel_rfl) (by kernel_rfl) (by kernel_rfl) hS0 (Or.inr ⟨by rfl, rfl⟩) ?_
        simp only [Act.put, List.setIfInBounds_toArray, List.set_cons_zero, List.set_cons_succ]
        refine Ht.take (i := 6) ⟨some 24, _, _, _, _, _⟩ (undef) rfl (by kernel_rfl) (by kernel_rfl) (by decide) (by kernel_rfl) (by kernel_rfl) (by kernel_rfl) hS0 (Or.inr ⟨by rfl, rfl⟩) ?_
        simp only [Act.put, List.setIfInBounds_toArray, List.set_cons_zero, List.set_cons_succ]
        refine Ht.step (i := 7) ⟨some 25, _, _, _, _, _⟩ rfl (by kernel_rfl) (by rfl) (fun K hK => ?_)
        go_simp
        refine hK _ _ (fun h => absurd rfl h) (fun _ => ?_)
        clear hK K
        refine done (by kernel_rfl) ?_
        have hno := HNO.out
        gi_wp2_with fail
        have hfr : Fr (fun _ => False) A2 A2.drew := fr_drew A2
        have hk2 := fr_round (n₀ := 0) (n₁ := w.heap.size + 1 + 1) (B := V.heap.size) hfr (fun _ h => h.elim) (by have := HV.out.2.1; omega) HX.out.2.2.2.2
        have hCs := HX.out.2.2.1
        refine ⟨hk2.1, rfl, ?_, HX.out.2.2.2.2⟩
        obtain ⟨v, l0, h1, h2, h3, h4, h5, h6, h7, h8⟩ := hCs
        rw [cnb_stop hno, List.append_nil] at h4
        subst h4
        exact ⟨v, h2, own_other h3 (fun _ _ => rfl), h7.trans ((Below.refl _ _).drew.mono h7.size), h8⟩
    case hdone =>
      intro D m2 X hD hS hI hK
      dsimp only
      obtain ⟨⟨v, l, h1, h2, h3, h4, h5, h6, h7, h8⟩, h9⟩ := hI
      obtain rfl : m2 = k := by omega
      rw [Nat.sub_self] at h4
      have h4' : l = C := by rw [← h4]; simp [cnb]
      subst h4'
      have c3 := cell_of_one h2
      have HX := Lib.hid (And.intro h3 (And.intro h7 (And.intro hK (And.intro hD h9))))
      clear h1 h2 h3 h4 h5 h6 h7 h8 h9 hK hD hS
      go_wp2_with fail
      exact leaveX rfl rfl HX.out.2.2.2.1 HX.out.2.2.1 fun X' hb => ⟨_, rfl, Joins.ownsRow_le (hb.own HX.out.1) (by omega), HX.out.2.1.trans (hb.below HV.out.1.size HX.out.2.2.2.2)⟩
    case hstop =>
      rintro D c m X hD ⟨rfl, ⟨v, h1, h2, h3, h4⟩, h5⟩ hK
      dsimp only
      have c3 := cell_of_one h1
      have HX := Lib.hid (And.intro h2 (And.intro h3 (And.intro hK (And.intro hD h5))))
      clear h1 h2 h3 h4 h5 hK hD
      refine wpIn_wide.2 ?_
      go_wp2_with fail
      exact leaveX rfl rfl HX.out.2.2.2.1 HX.out.2.2.1 fun X' hb => ⟨_, rfl, Joins.ownsRow_le (hb.own HX.out.1) (by omega), HX.out.2.1.trans (hb.below HV.out.1.size HX.out.2.2.2.2)⟩
end Go.Proofs.YtjblkmjdepdekaaDoor.Wl
