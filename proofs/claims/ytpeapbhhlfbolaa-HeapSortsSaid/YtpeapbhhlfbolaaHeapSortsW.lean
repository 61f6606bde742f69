
/- HeapSorts, walked -/
import Derived.Test.YtpeapbhhlfbolaaHpZB
import Derived.Test.YtpeapbhhlfbolaaHpV
namespace Go.Proofs.Ytpeapbhhlfbolaa.HpB
open Go.RowKit Go.Lib Go.Sort Hp Rg
set_option linter.unusedVariables false
set_option maxRecDepth 20000
/-- texts that lie in a row -/
def InK (W : World) (a : Option Addr) (n c : Nat) (l : List (List UInt8)) : Prop :=
  l.length = n ∧ n ≤ c ∧ c ≤ 9223372036854775807 ∧ (∀ x ∈ l, x.length ≤ 9223372036854775807) ∧ (n = 0 ∨ ∃ b o, a = some ⟨b, o, none⟩ ∧ ∀ i, i < n → W.cell? ⟨b, o + i, none⟩ = some (.string ⟨(l.getD i []).toArray⟩))
def InR (W : World) (a : Option Addr) (n c : Nat) : Prop :=
  n ≤ c ∧ c ≤ 9223372036854775807 ∧ (n = 0 ∨ ∃ b o, a = some ⟨b, o, none⟩ ∧ ∀ i, i < n → ∃ m : Nat, m ≤ 255 ∧ W.cell? ⟨b, o + i, none⟩ = some (.int .u8 ((m : Nat) : Int)))
theorem kindS : Kind Try.prog 48 9 5 .u8 ek kl wk where
  map := Try.underlying48
  elem := Try.underlying5
  zero w := by go_simp
  keyed := Maps.string_keyed Try.underlying9
  key := key_of
  inj k k' h := by simpa [kl] using h
abbrev Mu (w : World) (b n : Nat) (f : K → Option Int) : Prop := Mp Try.prog 9 5 .u8 kl wk w b n f
theorem wf_u8 {m : Nat} (h : m ≤ 255) : (Lit.int .u8 ((m : Nat) : Int)).wf = true := by
  simp [Lit.wf, IntKind.min, IntKind.max, IntKind.signed, IntKind.bits]; omega
theorem size_key (q : List UInt8) : (⟨q.toArray⟩ : ByteArray).size = q.length := by show q.toArray.size = q.length; simp
theorem getD_in (l : List (List UInt8)) {k : Nat} (h : k < l.length) : l.getD k [] ∈ l := by
  rw [List.getD_eq_getElem?_getD, List.getElem?_eq_getElem h]; exact List.getElem_mem h
theorem leaveN {n : Nat} {fn : Func} {tmps : Array Value} {r : Nat} {X : World} {v : Value} {R : Ending → World → Prop} (hres : fn.results = #[.tmp r]) (ht : tmps.getD r undef = v) (hR : R (.returned v) X) :
    LeavesInM Fence.wide n Try.prog fn tmps R [] .returning X := ⟨v, by rw [results_tmp hres, ht], hR⟩
def mk1 (D : Nat) : Deferred := { target := .collected D, args := #[] }
theorem leaveV {n : Nat} {fn : Func} {tmps : Array Value} {D r : Nat} {X : World} {v : Value} {R : Ending → World → Prop} (hres : fn.results = #[.tmp r]) (ht : tmps.getD r undef = v) (h : X.heap[D]? = some (.deferred (some []))) (hR : ∀ X', But D X X' → R (.returned v) X') :
    LeavesInM Fence.wide n Try.prog fn tmps R ([mk1 D]) .returning X := by
  refine ⟨by simp, .inl ⟨D, _, rfl, run_takeDeferred h, ?_⟩⟩
  have hbut := but_put D X (.deferred none)
  refine ⟨v, ?_, hR _ hbut⟩
  rw [results_tmp hres, ht]
theorem geq_str {P : Program} {t : TypeId} (x y : List UInt8) (h : x < y) (W : World) : (binOp .geq t (.string ⟨x.toArray⟩) (.string ⟨y.toArray⟩)).run P W = .ok (.bool false) W := by
  simp [binOp, Op.stringOp, bytesLess_eq, Lib.toList_data, h, go_sem]
/-- what has been put in -/
structure LS1 (w : World) (hb bm k : Nat) (wr : World) : Prop where
  t : ∃ m f, Hy w.heap.size (fun x => x = bm) wr hb m ∧ Mu wr bm m.length f ∧ Tl f m ∧ m.length ≤ k
  b : Below w.heap.size w wr
  l : bm < wr.heap.size ∧ w.heap.size ≤ bm
/-- what comes out -/
structure LS2 (w : World) (hb bm b1 b2 N : Nat) (wr : World) : Prop where
  t : ∃ m j q f, Hy w.heap.size (fun x => x = bm ∨ x = b1 ∨ x = b2) wr hb m ∧ Mu wr bm N f ∧ (∀ q r, (q, r) ∈ m → f q = some r) ∧ wr.heap[b1]? = some (.cells #[.int .i64 ((j : Nat) : Int)] 3 (0, 0)) ∧
    wr.heap[b2]? = some (.cells #[ek q.1, er q.2] 51 (0, 0)) ∧ j + m.length = N ∧ (0 < j → ∀ y ∈ m, ltp q y = true)
  b : Below w.heap.size w wr
  l : w.heap.size ≤ bm ∧ w.heap.size ≤ b1 ∧ w.heap.size ≤ b2 ∧ b1 ≠ b2 ∧ bm ≠ b1 ∧ bm ≠ b2 ∧ N ≤ 60
theorem ls2_end {w w6 V : World} {hb bm b1 b2 N j : Nat} {m : List (K × Int)} {p : List UInt8} {r : Int} {q : K × Int} {f : K → Option Int} {J : Int} {O : Obj} (hnd : (m.map (·.1)).Nodup) (hx : Lst m (p, r)) (hy6 : Hy w.heap.size (fun x => x = bm ∨ x = b1 ∨ x = b2) w6 hb (cut p m)) (hb6 : Below w.heap.size w w6)
    (hmu6 : Mu w6 bm N f) (i1 : w6.heap[b1]? = some (.cells #[.int .i64 ((j : Nat) : Int)] 3 (0, 0))) (i2 : w6.heap[b2]? = some (.cells #[ek q.1, er q.2] 51 (0, 0))) (hf : ∀ q r, (q, r) ∈ m → f q = some r) (hjm : j + m.length = N)
    (hl : w.heap.size ≤ bm ∧ w.heap.size ≤ b1 ∧ w.heap.size ≤ b2 ∧ b1 ≠ b2 ∧ bm ≠ b1 ∧ bm ≠ b2 ∧ N ≤ 60) (hJ : J = ((j + 1 : Nat) : Int))
    (hV : V = (((w6.setCell ⟨b2, 0, none⟩ (.string ⟨p.toArray⟩)).setCell ⟨b2, 1, none⟩ (.int .u8 r)).setCell ⟨b1, 0, none⟩ (.int .i64 J)).alloc O) : LS2 w hb bm b1 b2 N V ∧ lenAt hb V < m.length := by
  obtain ⟨z1, z2, z3, z4, z5, z6, z7⟩ := hl
  obtain ⟨A, hA⟩ : ∃ A, A = (w6.setCell ⟨b2, 0, none⟩ (.string ⟨p.toArray⟩)).setCell ⟨b2, 1, none⟩ (.int .u8 r) := ⟨_, rfl⟩
  obtain ⟨C, hC⟩ : ∃ C, C = A.setCell ⟨b1, 0, none⟩ (.int .i64 J) := ⟨_, rfl⟩
  rw [← hA, ← hC] at hV
  have gA : w6.grownBy A (some b2) := by rw [hA]; exact Lib.grownBy_setB (Lib.grownBy_setCell w6 b2 _ _) _ _
  have gC : A.grownBy C (some b1) := by rw [hC]; exact Lib.grownBy_setCell A b1 _ _
  have bV : Below C.heap.size C V := by rw [hV]; exact (Below.refl _ C).alloc (Nat.le_refl _) _
  have sA := gA.size
  have sC := gC.size
  have sV := bV.size
  have l1 := (Array.getElem?_eq_some_iff.1 i1).1
  have l2 := (Array.getElem?_eq_some_iff.1 i2).1
  have oth : ∀ x, x < w6.heap.size → x ≠ b1 → x ≠ b2 → V.heap[x]? = w6.heap[x]? := fun x hx h1 h2 => (bV.block x (by omega)).trans ((gC.block x (by omega) (fun e => h1 (Option.some.inj e))).trans (gA.block x hx (fun e => h2 (Option.some.inj e))))
  have a1 : V.heap[b1]? = some (.cells #[.int .i64 ((j + 1 : Nat) : Int)] 3 (0, 0)) := by
    rw [bV.block b1 (by omega), hC, Lib.heap_setCell_same ((gA.block b1 l1 (fun e => z4 (Option.some.inj e))).trans i1), hJ]; rfl
  have a2 : V.heap[b2]? = some (.cells #[ek p, er r] 51 (0, 0)) := by
    rw [bV.block b2 (by omega), gC.block b2 (by omega) (fun e => z4 (Option.some.inj e).symm), hA, Lib.heap_setCell_same (Lib.heap_setCell_same i2 _)]; rfl
  have hyV : Hy w.heap.size (fun x => x = bm ∨ x = b1 ∨ x = b2) V hb (cut p m) := hy6.kept (by omega) (fun x hx hn => oth x hx (fun e => hn (.inr (.inl e))) (fun e => hn (.inr (.inr e))))
  have hc : (cut p m).length + 1 = m.length := cut_length hnd (List.mem_map.2 ⟨_, hx.1, rfl⟩)
  refine ⟨⟨⟨cut p m, j + 1, (p, r), f, hyV, hmu6.kept (oth bm hmu6.lt z5 z6), fun q' r' h => hf q' r' (mem_cut.1 h).1, a1, a2, by omega, fun _ y hy => ?_⟩, ?_, z1, z2, z3, z4, z5, z6, z7⟩, by rw [hyV.lenAt]; omega⟩
  · have h1 := mem_cut.1 hy
    exact hx.ahead h1.1 (fun e => h1.2 (by rw [e]))
  · exact ⟨bV.os.trans (gC.os.trans (gA.os.trans hb6.os)), bV.tape.trans (gC.tape.trans (gA.tape.trans hb6.tape)), bV.output.trans (gC.output.trans (gA.output.trans hb6.output)), by have := hb6.size; omega, fun k hk => by
      have := hb6.size
      rw [oth k (by omega) (by omega) (by omega)]; exact hb6.block k hk⟩
set_option maxHeartbeats 4000000 in
theorem sorts_any (w : World) (a : Option Addr) (n c : Nat) (l : List (List UInt8)) (a' : Option Addr) (n' c' : Nat) (hi : InK w a n c l) (hi' : InR w a' n' c') :
    Calls Try.prog 4 #[.slice a n c, .slice a' n' c'] w fun e w' => e = .returned (.bool true) ∧ Below w.heap.size w w' := by
  have HLV := Lib.hid (fun W => HpV.lives_any W)
  have HI := Lib.hid (And.intro hi hi')
  have hn1 := hi.2.1
  have hn2 := hi.2.2.1
  have hn3 := hi'.1
  have hn4 := hi'.2.1
  have hmk := @run_makeMap Try.prog
  clear hi hi'
  refine (callsIn_wide (n := 5)).1 ?_
  refine callsIn_of_wp_marks Try.func4 rfl trivial ?_ rfl
  simp only [Try.ntmps4, List.size_toArray, List.length_cons, List.length_nil, Nat.reduceAdd, Nat.reduceSub, Array.replicate_succ, Array.replicate_zero, List.push_toArray, List.append_toArray, List.nil_append, List.cons_append]
  refine wpIn_wide.2 ?_
  by_cases h60 : n ≤ 60
  · have h1x : ¬ ((n : Nat) : Int) > 60 := by omega
    have HNN := Lib.hid h60
    clear h60
    go_wp2_with fail
    refine (HLV.out _).mono ?_
    rintro e w1 ⟨rfl, b1⟩
    have HB1 := Lib.hid b1
    clear b1
    go_wp2_with fail
    refine (new_y _ (fun _ => False) (fun _ h => h.elim)).mono ?_
    rintro e w2 ⟨rfl, hy, b2⟩
    have HB2 := Lib.hid (And.intro hy b2)
    clear hy b2
    obtain ⟨hb, hhb⟩ : ∃ x, x = w1.heap.size := ⟨_, rfl⟩
    rw [← hhb] at HB2 ⊢
    have HHB := Lib.hid hhb
    clear hhb
    go_wp2_with fail
    have hst : LS1 w hb w2.heap.size 0 (w2.alloc (.map #[] 0)) := by
      have hm0 := mp_made kindS w2
      have hba : Below w2.heap.size w2 (w2.alloc (.map #[] 0)) := (Below.refl _ _).alloc (Nat.le_refl _) _
      have z1 : w.heap.size ≤ hb := by rw [HHB.out]; exact HB1.out.size
      have z2 : hb ≤ w2.heap.size := by rw [HHB.out]; exact HB2.out.2.size
      refine ⟨⟨[], _, ?_, hm0, fun q r => by simp, Nat.le_refl _⟩, (HB1.out.trans (HB2.out.2.mono z1)).trans (hba.mono (by omega)), by simp, by omega⟩
      obtain ⟨S, s1, s2, s3⟩ := HB2.out.1
      exact ⟨S, s1.old hba, fun k hk => Nat.le_trans z1 (s2 k hk), fun k hk e => by have := s1.size k hk; omega⟩
    have HS := Lib.hid hst
    clear hst
    obtain ⟨bm, hbm⟩ : ∃ x, x = w2.heap.size := ⟨_, rfl⟩
    obtain ⟨w3, hw3⟩ : ∃ x, x = w2.alloc (.map #[] 0) := ⟨_, rfl⟩
    rw [← hw3, ← hbm] at HS ⊢
    clear hbm hw3
    go_loopw [33] (fun i wr => ∃ k : Nat, i = .int .i64 ((k : Nat) : Int) ∧ k ≤ n ∧ LS1 w hb bm k wr) (fun i _ => n - (RowKit.intOf i).toNat)
    case atStart => exact ⟨0, rfl, Nat.zero_le _, HS.out⟩
    case round =>
      obtain ⟨k, rfl, hk, hs⟩ := hrel
      by_cases hlt : k < n
      · have hkx : ((k : Nat) : Int) < ((n : Nat) : Int) := by omega
        obtain ⟨b, o, rfl, hcells⟩ : ∃ b o, a = some ⟨b, o, none⟩ ∧ ∀ i, i < n → w.cell? ⟨b, o + i, none⟩ = some (.string ⟨(l.getD i []).toArray⟩) := by
          rcases HI.out.1.2.2.2.2 with h | h
          · omega
          · exact h
        have hll := HI.out.1.1
        have hc := hcells k hlt
        have hcr := (hs.b.cell (World.block_lt_of_cell? _ _ hc)).trans hc
        have hbig := HI.out.1.2.2.2.1 _ (getD_in l (by omega) : l.getD k [] ∈ l)
        obtain ⟨v, hv⟩ : ∃ v, v = l.getD k [] := ⟨_, rfl⟩
        rw [← hv] at hcr hbig
        have hsz := size_key v
        have HL := Lib.hid (And.intro hs hlt)
        clear hcells hc hv hs hll hlt
        by_cases h20 : v.length ≤ 20
        · have h20x : ¬ ((v.length : Nat) : Int) > 20 := by omega
          have hwk : wk v := by unfold wk; omega
          by_cases hr : k < n'
          · have hrx : ((k : Nat) : Int) < ((n' : Nat) : Int) := by omega
            obtain ⟨b', o', rfl, hcells'⟩ : ∃ b o, a' = some ⟨b, o, none⟩ ∧ ∀ i, i < n' → ∃ m : Nat, m ≤ 255 ∧ w.cell? ⟨b, o + i, none⟩ = some (.int .u8 ((m : Nat) : Int)) := by
              rcases HI.out.2.2.2 with h | h
              · omega
              · exact h
            obtain ⟨m0, hm0, hc'⟩ := hcells' k hr
            have hcr' := (HL.out.1.b.cell (World.block_lt_of_cell? _ _ hc')).trans hc'
            clear hcells' hc' hr h20
            have HM := Lib.hid (And.intro hwk hm0)
            have hputs := fun m f (h : Hy w.heap.size (fun x => x = bm) wr hb m ∧ Mu wr bm m.length f ∧ Tl f m ∧ m.length ≤ k) => h.1.put HL.out.1.b.size (fun x hx => by rw [hx]; exact HL.out.1.l.1) hwk ((m0 : Nat) : Int) (by have := h.2.2.2; have := HL.out.2; have := HNN.out; omega)
            have HP := Lib.hid hputs
            clear hputs hwk hm0
            unfold ek er at HP
            go_wp2_with fail
            obtain ⟨m, f, ht⟩ := HL.out.1.t
            refine (HP.out m f ht).mono ?_
            rintro e w5 ⟨rfl, hy5, bb5, kk5⟩
            have hM5 : Mu w5 bm m.length f := ht.2.1.kept (kk5 bm rfl)
            have hml : m.length < maxLen := by have := ht.2.2.2; have := HL.out.2; have := HNN.out; unfold maxLen; omega
            obtain ⟨w6, run6, hM6, hg6⟩ := hM5.put kindS hml HM.out.1 (wf_u8 HM.out.2)
            have hfin : LS1 w hb bm (k + 1) w6 := by
              have hd : (f v).isSome = decide (v ∈ m.map (·.1)) := ht.2.2.1.some v
              refine ⟨⟨put v ((m0 : Nat) : Int) m, upd f v ((m0 : Nat) : Int), hy5.kept hg6.size (fun x hx hn => hg6.block x hx (fun e => hn (Option.some.inj e))), ?_, ht.2.2.1.put v _, Nat.le_trans put_len (by have := ht.2.2.2; omega)⟩, ?_, ?_, HL.out.1.l.2⟩
              · rw [put_length ht.1.nodup]
                rw [hd] at hM6
                by_cases hin : v ∈ m.map (·.1)
                · rw [if_pos hin]; simpa [hin] using hM6
                · rw [if_neg hin]; simpa [hin] using hM6
              · have hh := HL.out.1.b.trans bb5
                exact hh.grown hg6 hh.size (fun x e => by obtain rfl := Option.some.inj e; exact HL.out.1.l.2)
              · have := bb5.size; have := hg6.size; have := HL.out.1.l.1; omega
            have HF := Lib.hid hfin
            clear hfin hM6 hg6 hM5 hy5 bb5 kk5 ht hml
            unfold ek at run6
            go_wp2_with fail
            exact ⟨⟨k + 1, rfl, HL.out.2, HF.out⟩, by have := HL.out.2; simp [RowKit.intOf]; omega⟩
          · have hrx : ((n' : Nat) : Int) ≤ ((k : Nat) : Int) := by omega
            clear hr h20
            have HM := Lib.hid (And.intro hwk True.intro)
            have hputs := fun m f (h : Hy w.heap.size (fun x => x = bm) wr hb m ∧ Mu wr bm m.length f ∧ Tl f m ∧ m.length ≤ k) => h.1.put HL.out.1.b.size (fun x hx => by rw [hx]; exact HL.out.1.l.1) hwk (0 : Int) (by have := h.2.2.2; have := HL.out.2; have := HNN.out; omega)
            have HP := Lib.hid hputs
            clear hputs hwk
            unfold ek er at HP
            go_wp2_with fail
            obtain ⟨m, f, ht⟩ := HL.out.1.t
            refine (HP.out m f ht).mono ?_
            rintro e w5 ⟨rfl, hy5, bb5, kk5⟩
            have hM5 : Mu w5 bm m.length f := ht.2.1.kept (kk5 bm rfl)
            have hml : m.length < maxLen := by have := ht.2.2.2; have := HL.out.2; have := HNN.out; unfold maxLen; omega
            obtain ⟨w6, run6, hM6, hg6⟩ := hM5.put kindS hml HM.out.1 (x := 0) (by decide)
            have hfin : LS1 w hb bm (k + 1) w6 := by
              have hd : (f v).isSome = decide (v ∈ m.map (·.1)) := ht.2.2.1.some v
              refine ⟨⟨put v (0 : Int) m, upd f v (0 : Int), hy5.kept hg6.size (fun x hx hn => hg6.block x hx (fun e => hn (Option.some.inj e))), ?_, ht.2.2.1.put v _, Nat.le_trans put_len (by have := ht.2.2.2; omega)⟩, ?_, ?_, HL.out.1.l.2⟩
              · rw [put_length ht.1.nodup]
                rw [hd] at hM6
                by_cases hin : v ∈ m.map (·.1)
                · rw [if_pos hin]; simpa [hin] using hM6
                · rw [if_neg hin]; simpa [hin] using hM6
              · have hh := HL.out.1.b.trans bb5
                exact hh.grown hg6 hh.size (fun x e => by obtain rfl := Option.some.inj e; exact HL.out.1.l.2)
              · have := bb5.size; have := hg6.size; have := HL.out.1.l.1; omega
            have HF := Lib.hid hfin
            clear hfin hM6 hg6 hM5 hy5 bb5 kk5 ht hml
            unfold ek at run6
            go_wp2_with fail
            exact ⟨⟨k + 1, rfl, HL.out.2, HF.out⟩, by have := HL.out.2; simp [RowKit.intOf]; omega⟩
        · have h20x : ((v.length : Nat) : Int) > 20 := by omega
          clear h20
          go_wp2_with fail
          exact leaveN rfl rfl ⟨rfl, HL.out.1.b⟩
      · obtain rfl : k = n := by omega
        have hkx : ¬ ((k : Nat) : Int) < ((k : Nat) : Int) := by omega
        obtain ⟨m, f, h1, h2, h3, h4⟩ := hs.t
        have hst : LS2 w hb bm wr.heap.size (wr.heap.size + 1) m.length ((wr.alloc (.cells #[.int .i64 0] 3)).alloc (.cells #[.string ⟨#[]⟩, .int .u8 0] 51)) := by
          have ba : Below wr.heap.size wr (wr.alloc (.cells #[.int .i64 0] 3)) := (Below.refl _ _).alloc (Nat.le_refl _) _
          have bb : Below wr.heap.size wr ((wr.alloc (.cells #[.int .i64 0] 3)).alloc (.cells #[.string ⟨#[]⟩, .int .u8 0] 51)) := ba.alloc (by simp) _
          have z := hs.b.size
          have zl := hs.l
          refine ⟨⟨m, 0, ([], 0), f, ?_, h2.kept (bb.block bm zl.1), fun q r hq => (h3 q r).2 hq, ?_, ?_, by omega, fun h => by omega⟩, hs.b.trans (bb.mono z), zl.2, z, by omega, by omega, by omega, by omega, by have := HNN.out; omega⟩
          · exact (h1.more (fun x hx => by rcases hx with hx | hx | hx; exact .inl hx; right; omega; right; omega)).old bb
          · exact (Below.heap_alloc _ _ _ (by simp)).trans (MapKept.heap_alloc wr _).1
          · have := (MapKept.heap_alloc (wr.alloc (.cells #[.int .i64 0] 3)) (.cells #[.string ⟨#[]⟩, .int .u8 0] 51)).1
            rw [World.size_alloc] at this
            exact this
        have HS2 := Lib.hid hst
        clear hst h1 h2 h3 hs hlt hk HB1 HB2
        go_wp2_with fail
        obtain ⟨b1, hb1⟩ : ∃ x, x = wr.heap.size := ⟨_, rfl⟩
        obtain ⟨b2, hb2⟩ : ∃ x, x = wr.heap.size + 1 := ⟨_, rfl⟩
        obtain ⟨N, hN⟩ : ∃ x, x = m.length := ⟨_, rfl⟩
        rw [← hb2, ← hb1] at HS2 ⊢
        rw [← hN] at HS2
        obtain ⟨w4, hw4⟩ : ∃ x, x = (wr.alloc (.cells #[.int .i64 0] 3)).alloc (.cells #[.string ⟨#[]⟩, .int .u8 0] 51) := ⟨_, rfl⟩
        rw [← hw4] at HS2 ⊢
        clear hb1 hb2 hN hw4 h4
        go_loopw [] (fun wr => LS2 w hb bm b1 b2 N wr) (fun wr => lenAt hb wr)
        case atStart => exact HS2.out
        case round =>
          obtain ⟨m, j, ⟨q1, q2⟩, f, hy, hmu, hf, g1, g2, hjm, hlt⟩ := hrel.t
          have hlen := hy.len
          have hla := hy.lenAt
          have HL := Lib.hid (And.intro hrel (And.intro hy (And.intro hmu (And.intro hf (And.intro g1 (And.intro g2 (And.intro hjm (And.intro hlt hla))))))))
          by_cases hm : m = []
          · subst hm
            have hjN : j = N := by simpa using hjm
            subst hjN
            have c1 : wr.cell? ⟨b1, 0, none⟩ = some (.int .i64 ((j : Nat) : Int)) := by rw [cell_of_row _ _ _ _ _ _ g1]; rfl
            have HQ := Lib.hid (And.intro hrel.b (And.intro hmu (And.intro g1 hrel.l)))
            have HF := Lib.hid (fun W => first_none W)
            have HPN := Lib.hid (fun W => pop_none W)
            have HR := Lib.hid (fun W => rank_nil W [120])
            have HA := Lib.hid (fun W => all_none W)
            clear hrel hy hmu hf g1 g2 hjm hlt hla HL c1
            unfold none0 at HF HPN
            unfold ek at HR
            go_wp2_with fail
            refine hlen.mono ?_
            rintro e w5 ⟨rfl, rfl⟩
            clear hlen
            go_wp2_with fail
            refine (HF.out _).mono ?_
            rintro e w6 ⟨rfl, c6⟩
            have H6 := Lib.hid c6
            clear c6
            go_wp2_with fail
            refine (HPN.out _).mono ?_
            rintro e w7 ⟨rfl, c7⟩
            have H7 := Lib.hid c7
            clear c7
            go_wp2_with fail
            refine (HR.out _).mono ?_
            rintro e w8 ⟨rfl, c8⟩
            have H8 := Lib.hid c8
            clear c8
            go_wp2_with fail
            refine (HA.out _).mono ?_
            rintro e w9 ⟨rfl, rfl⟩
            go_wp2_with fail
            obtain ⟨V, hV⟩ : ∃ V, V = w8.alloc (.cells #[.slice none 0 0] 92) := ⟨_, rfl⟩
            have hv0 : V.heap[w8.heap.size]? = some (.cells #[.slice none 0 0] 92 (0, 0)) := by rw [hV]; exact (MapKept.heap_alloc w8 _).1
            have hvb : Below w5.heap.size w5 V := by
              have e7 : Below w5.heap.size w5 w7 := (H6.out.trans ((Below.refl w6.heap.size w6).alloc (Nat.le_refl _) (.cells #[.string ⟨#[]⟩, .int .u8 0] 51) |>.mono H6.out.size)).trans (H7.out.mono (by have := H6.out.size; simp; omega))
              have e8 : Below w5.heap.size w5 w8 := (e7.trans ((Below.refl w7.heap.size w7).alloc (Nat.le_refl _) (.cells #[.string ⟨#[]⟩, .int .u8 0] 51) |>.mono e7.size)).trans (H8.out.mono (by have := e7.size; simp; omega))
              rw [hV]; exact e8.alloc e8.size _
            rw [← hV]
            have hI0 : V.heap[b1]? = some (.cells #[.int .i64 ((j : Nat) : Int)] 3 (0, 0)) ∧ Mu V bm j f ∧ Below w.heap.size w V := by
              have h1 := (Array.getElem?_eq_some_iff.1 HQ.out.2.2.1).1
              have h2 := HQ.out.2.1.lt
              exact ⟨(hvb.block b1 h1).trans HQ.out.2.2.1, HQ.out.2.1.kept (hvb.block bm h2), HQ.out.1.trans (hvb.mono HQ.out.1.size)⟩
            have hl8 : w8.heap.size < V.heap.size := (Array.getElem?_eq_some_iff.1 hv0).1
            have HI0 := Lib.hid (And.intro hI0 (And.intro hv0 (And.intro hl8 (And.intro (Array.getElem?_eq_some_iff.1 hI0.1).1 hI0.2.1.lt))))
            clear hI0 hv0 hvb hV hl8
            refine (wpIn_wide (n := 5)).1 ?_
            refine range_all rfl (by omega) (gf := 51) (lb := #[.pointer (some ⟨w8.heap.size, 0, none⟩)]) rfl trivial (enters_of Try.func51 (by kernel_rfl) rfl)
              (none_iter (α := Unit) (encs := fun _ => #[.bool false]) (5 - 1) 0 0 V.heap.size w8.heap.size V (by rw [cell_of_row _ _ _ _ _ _ HI0.out.2.1]; rfl) HI0.out.2.2.1) (fun _ => rfl)
              (fun _ X => X.heap[b1]? = some (.cells #[.int .i64 ((j : Nat) : Int)] 3 (0, 0)) ∧ Mu X bm j f ∧ Below w.heap.size w X)
              (fun _ X X' h hb => ⟨(hb.block b1 HI0.out.2.2.2.1).trans h.1, h.2.1.kept (hb.block bm HI0.out.2.2.2.2), h.2.2.trans (hb.mono HI0.out.1.2.2.size)⟩) HI0.out.1 (fun _ _ _ _ h _ => h.elim) (fun _ _ _ _ _ _ h _ _ => h.elim) (fun _ _ _ _ _ _ _ h => h.elim) ?hdone
            case hdone =>
              intro D m2 X hD hS hI hK
              obtain ⟨x1, x2, x3⟩ := hI
              have c1 : X.cell? ⟨b1, 0, none⟩ = some (.int .i64 ((j : Nat) : Int)) := by rw [cell_of_row _ _ _ _ _ _ x1]; rfl
              have hlenM := fun ty => x2.len kindS (Y := X) rfl ty
              have HX := Lib.hid (And.intro x3 (And.intro hD hK))
              have q1 := put_nil X [120] 1
              have q2 := cut_nil X [120]
              have q3 := len_nil X
              have q4 := copy_nil X
              unfold ek er at q1
              unfold ek at q2
              clear x1 x2 x3 hD hK hS
              dsimp only
              go_wp2_with fail
              refine q1.mono ?_
              rintro e y1 ⟨rfl, rfl⟩
              go_wp2_with fail
              refine q2.mono ?_
              rintro e y1 ⟨rfl, rfl⟩
              go_wp2_with fail
              refine q3.mono ?_
              rintro e y1 ⟨rfl, rfl⟩
              go_wp2_with fail
              refine q4.mono ?_
              rintro e y1 ⟨rfl, rfl⟩
              go_wp2_with fail
              exact leaveV rfl rfl HX.out.2.2 fun X' hbut => ⟨rfl, HX.out.1.trans (hbut.below (Nat.le_trans HI0.out.1.2.2.size HX.out.2.1))⟩
          · have hpos : 0 < m.length := List.length_pos_iff.2 hm
            have hp := hy.pop hrel.b.size (fun x hx => by
              rcases hx with hx | hx | hx
              · rw [hx]; exact hmu.lt
              · rw [hx]; exact (Array.getElem?_eq_some_iff.1 g1).1
              · rw [hx]; exact (Array.getElem?_eq_some_iff.1 g2).1) hm (by have := hrel.l.2.2.2.2.2.2; omega)
            have HP := Lib.hid (And.intro hp (And.intro hpos hm))
            have hgt : ((m.length : Nat) : Int) > 0 := by omega
            clear hrel hy hmu hf g1 g2 hjm hlt hla hm hpos hp
            go_wp2_with fail
            refine hlen.mono ?_
            rintro e w5 ⟨rfl, rfl⟩
            clear hlen
            go_wp2_with fail
            refine HP.out.1.mono ?_
            rintro e w6 ⟨⟨p, r⟩, hx, rfl, hy6, bb6, kk6⟩
            obtain ⟨hrel, hy, hmu, hf, g1, g2, hjm, hlt, hla⟩ := HL.out
            obtain ⟨z0, z1, z2, z3, z4, z5, z6⟩ := hrel.l
            have i1 := (kk6 b1 (.inr (.inl rfl))).trans g1
            have i2 := (kk6 b2 (.inr (.inr rfl))).trans g2
            have hmu6 : Mu w6 bm N f := hmu.kept (kk6 bm (.inl rfl))
            have hwk : wk p := hy.keys _ hx.1
            have hfp : f p = some r := hf p r hx.1
            have hbV : Below w6.heap.size w6 (w6.alloc (.cells #[.string ⟨p.toArray⟩, .int .u8 r] 51)) := (Below.refl _ _).alloc (Nat.le_refl _) _
            have lk := fun (Y : World) (e : Y.heap[bm]? = w6.heap[bm]?) => hmu6.look1 kindS e hwk
            rw [hfp] at lk
            have lkV := lk _ (hbV.block bm hmu6.lt)
            have c1 : w6.cell? ⟨b1, 0, none⟩ = some (.int .i64 ((j : Nat) : Int)) := by rw [cell_of_row _ _ _ _ _ _ i1]; rfl
            have c2 : w6.cell? ⟨b2, 0, none⟩ = some (.string ⟨q1.toArray⟩) := by rw [cell_of_row _ _ _ _ _ _ i2]; rfl
            have c3 : w6.cell? ⟨b2, 1, none⟩ = some (.int .u8 q2) := by rw [cell_of_row _ _ _ _ _ _ i2]; rfl
            have f1 : w6.frozen? ⟨b1, 0, none⟩ = false := by simp [World.frozen?, i1]
            have f2 : w6.frozen? ⟨b2, 0, none⟩ = false := by simp [World.frozen?, i2]
            have f3 : w6.frozen? ⟨b2, 1, none⟩ = false := by simp [World.frozen?, i2]
            have l1 := (Array.getElem?_eq_some_iff.1 i1).1
            have l2 := (Array.getElem?_eq_some_iff.1 i2).1
            have hge : ∀ W, 0 < j → ¬ q2 < r → (binOp .geq 9 (.string ⟨q1.toArray⟩) (.string ⟨p.toArray⟩)).run Try.prog W = .ok (.bool false) W := fun W h0 h1 => by
              have hl := hlt h0 _ hx.1
              rw [ltp_iff] at hl
              rcases hl with hl | hl
              · exact absurd hl h1
              · exact geq_str q1 p hl.2 W
            have hor : 0 < j → q2 < r ∨ q2 = r := fun h0 => by
              have hl := hlt h0 _ hx.1
              rw [ltp_iff] at hl
              rcases hl with hl | hl
              · exact .inl hl
              · exact .inr hl.1
            have hjN : j < N := by have := HP.out.2.1; omega
            have hbb6 := hrel.b.trans bb6
            have HX := Lib.hid (And.intro hx (And.intro hy6 (And.intro hbb6 (And.intro hmu6 (And.intro i1 (And.intro i2 (And.intro hf (And.intro hjm (And.intro hla (And.intro hrel.l hfp))))))))))
            have HJ := Lib.hid (And.intro hjN (And.intro hge (And.intro hor hy.nodup)))
            have hb12 : b1 ≠ b2 := z3
            have hb21 : b2 ≠ b1 := fun e => z3 e.symm
            clear hy6 bb6 kk6 hrel hy hmu hf g1 g2 hjm hlt hla i1 i2 hmu6 hwk hfp hbV lk hx hge hor hbb6 z0 z1 z2 z3 z4 z5
            unfold item ek er
            unfold ek at lkV
            simp only [Option.getD_some] at lkV
            have hjx : ((j : Nat) : Int) < 60 := by omega

            by_cases h0 : 0 < j
            · have h0x : ((j : Nat) : Int) > 0 := by omega
              rcases HJ.out.2.2.1 h0 with hq | hq
              · have hq1 : ¬ q2 > r := by omega
                have hq2 : ¬ q2 = r := by omega
                go_wp2_with fail
                have hfin := fun J O hJ => ls2_end (J := J) (O := O) (q := (q1, q2)) HJ.out.2.2.2 HX.out.1 HX.out.2.1 HX.out.2.2.1 HX.out.2.2.2.1 HX.out.2.2.2.2.1 HX.out.2.2.2.2.2.1 HX.out.2.2.2.2.2.2.1 HX.out.2.2.2.2.2.2.2.1 HX.out.2.2.2.2.2.2.2.2.2.1 hJ rfl
                rw [HX.out.2.2.2.2.2.2.2.2.1]
                exact hfin _ _ (by simp)
              · subst hq
                have hgeq := fun W => HJ.out.2.1 W h0 (by omega)
                go_wp2_with fail
                have hfin := fun J O hJ => ls2_end (J := J) (O := O) (q := (q1, q2)) HJ.out.2.2.2 HX.out.1 HX.out.2.1 HX.out.2.2.1 HX.out.2.2.2.1 HX.out.2.2.2.2.1 HX.out.2.2.2.2.2.1 HX.out.2.2.2.2.2.2.1 HX.out.2.2.2.2.2.2.2.1 HX.out.2.2.2.2.2.2.2.2.2.1 hJ rfl
                rw [HX.out.2.2.2.2.2.2.2.2.1]
                exact hfin _ _ (by simp)
            · obtain rfl : j = 0 := by omega
              go_wp2_with fail
              have hfin := fun J O hJ => ls2_end (J := J) (O := O) (q := (q1, q2)) HJ.out.2.2.2 HX.out.1 HX.out.2.1 HX.out.2.2.1 HX.out.2.2.2.1 HX.out.2.2.2.2.1 HX.out.2.2.2.2.2.1 HX.out.2.2.2.2.2.2.1 HX.out.2.2.2.2.2.2.2.1 HX.out.2.2.2.2.2.2.2.2.2.1 hJ rfl
              rw [HX.out.2.2.2.2.2.2.2.2.1]
              exact hfin _ _ (by simp)
  · have h1x : ((n : Nat) : Int) > 60 := by omega
    clear h60
    go_wp2_with fail
    refine (HLV.out _).mono ?_
    rintro e w1 ⟨rfl, b1⟩
    have HB1 := Lib.hid b1
    clear b1
    go_wp2_with fail
    refine (HLV.out _).mono ?_
    rintro e w2 ⟨rfl, b2⟩
    have HB2 := Lib.hid b2
    clear b2
    go_wp2_with fail
    exact leaveN rfl rfl ⟨rfl, HB1.out.trans (HB2.out.mono HB1.out.size)⟩
end Go.Proofs.Ytpeapbhhlfbolaa.HpB
