
/- fires: Between and Next, walked -/
import Derived.Test.YtheaimlfngaaoaaDoorFi6
/- fires: all ticks between two, plainly -/
namespace Go.Proofs.YtheaimlfngaaoaaDoor.Fi
open Go.RowKit Go.Lib Go.Proofs.YtheaimlfngaaoaaDoor.Cn Go.Proofs.YtheaimlfngaaoaaDoor.Rg
set_option linter.unusedVariables false

theorem roundIn_any {n m k l : Nat} {P : Program} {f : FuncId} {tmps : Array Value} {assign body : Code} {w : World} {R : Ending → World → Prop} (h : RoundIn Fence.wide n P l f tmps assign body w R) : RoundIn (Fence.wide.inRound k) m P l f tmps assign body w R :=
  ⟨h.1, fun c cs _ => h.2 c cs (room_wide _)⟩
theorem yieldAt_any {n m l : Nat} {P : Program} {args : Array Value} {w : World} {R : Ending → World → Prop} (h : YieldAt Fence.wide n P l args w R) : YieldAt Fence.wide m P l args w R := by
  obtain ⟨fn, tmps, assign, body, hy, hR⟩ := h
  exact ⟨fn, tmps, assign, body, hy, hR.1, fun c cs _ => hR.2 c cs (room_wide _)⟩
theorem callsIn_any {n m : Nat} {P : Program} {f : FuncId} {args : Array Value} {w : World} {R : Ending → World → Prop} (h : CallsIn Fence.wide n P f args w R) : CallsIn Fence.wide m P f args w R := callsIn_wide.2 (callsIn_wide.1 h)
theorem SeqI.any {n m : Nat} {P : Program} {g : Nat} {lb : Array Value} {box : Nat → Prop} {x0 : Int} {G : Int → Int → Prop} {S : Int → Prop} {w : World} (h : SeqI Fence.wide n P g lb box x0 G S w) : SeqI Fence.wide m P g lb box x0 G S w :=
  fun own l J K W hW hown hJ hK hY hJ0 => callsIn_any (h own l J K W hW hown hJ hK (fun x y A h1 h2 h3 => yieldAt_any (hY x y A h1 h2 h3)) hJ0)
/-- the boxes that the iterator reads: the two ticks', the expression's -/
abbrev betB (b : Nat) : Array Value := #[.pointer (some ⟨b + 1, 0, none⟩), .pointer (some ⟨b + 2, 0, none⟩), .pointer (some ⟨b, 0, none⟩)]
/-- which tick comes next -/
def BG (e : Ex) (to s t : Int) : Prop := nx e s t ∧ t ≤ to
def BS (e : Ex) (to s : Int) : Prop := ∀ u, s < u → u ≤ to → ¬ nm e u
/-- days up to x are through -/
structure Opn (e : Ex) (a x s : Int) : Prop where
  ge : a ≤ s
  no : ∀ u, nm e u → s < u → x < u - u % 1440
  alt : s = a ∨ (x % 1440 = 0 ∧ s < x + 1440)
/-- .. and ticks of day F up to p -/
structure Ipn (e : Ex) (a F p s : Int) : Prop where
  ge : a ≤ s
  no : ∀ u, nm e u → s < u → F ≤ u ∧ p < u
  lt : s ≤ p ∨ s < F
  alt : s = a ∨ s < F + 1440
theorem Opn.start (e : Ex) (a : Int) : Opn e a (a + 1 - (a + 1) % 1440 - 1) a := ⟨Int.le_refl _, fun u _ hu => by omega, .inl rfl⟩
theorem Opn.day {e : Ex} {a x s F to : Int} (h : Opn e a x s) (g : DG e to x F) : Ipn e a F a s := by
  have hF := dn_day g.2.1.2
  refine ⟨h.ge, fun u hu hs => ?_, ?_, ?_⟩
  · have h1 := h.no u hu hs
    have h2 := nm_dl hu
    have h3 : F ≤ u - u % 1440 := by
      by_cases hc : F ≤ u - u % 1440
      · exact hc
      · exact absurd h2 (g.2.2.2 _ h1 (by omega))
    have := h.ge
    omega
  · rcases h.alt with h1 | ⟨h1, h2⟩
    · exact .inl (by omega)
    · have := g.1; exact .inr (by omega)
  · rcases h.alt with h1 | ⟨h1, h2⟩
    · exact .inl h1
    · have := g.1; exact .inr (by omega)
theorem Ipn.next {e : Ex} {a F p s t : Int} (h : Ipn e a F p s) (hd : dn e F) (g : TG e F a p t) : nx e s t ∧ Ipn e a F t t := by
  obtain ⟨g0, g1, g2, g3⟩ := g
  have l1 := g2.1
  have l2 := g2.2.1
  have hst : s < t := by rcases h.lt with h | h <;> omega
  refine ⟨⟨hst, (nm_tn hd l1 l2).2 g2, fun u h1 h2 hu => ?_⟩, by omega, fun u _ hu => by omega, .inl (Int.le_refl _), .inr l2⟩
  obtain ⟨i1, i2⟩ := h.no u hu h1
  exact g3 u i2 h2 ((nm_tn hd i1 (by omega)).1 hu)
theorem Ipn.far {e : Ex} {a F p s t to : Int} (h : Ipn e a F p s) (hd : dn e F) (g : TG e F a p t) (ht : to < t) : BS e to s := fun u h1 h2 hu => (h.next hd g).1.2.2 u h1 (by omega) hu
theorem Ipn.done {e : Ex} {a F p s : Int} (h : Ipn e a F p s) (hd : dn e F) (g : TS e F p) : Opn e a F s := by
  have hF := dn_day hd
  refine ⟨h.ge, fun u hu hs => ?_, h.alt.elim .inl (fun h => .inr ⟨hF.2, h⟩)⟩
  obtain ⟨i1, i2⟩ := h.no u hu hs
  by_cases hc : u < F + 1440
  · exact absurd ((nm_tn hd i1 hc).1 hu) (g u i2)
  · omega
theorem Opn.done {e : Ex} {a x s to : Int} (h : Opn e a x s) (g : DS e to x) : BS e to s := fun u h1 h2 hu => g _ (h.no u hu h1) (by have := nm_nonneg hu; omega) (nm_dl hu)
theorem between_any (e : Ex) (a t : Int) (ha : Ca.I64 a) (ht : Ca.I64 t) (w : World) (hd : Db w) :
    Calls Tryd.prog 13 #[exv e, .int .i64 a, .int .i64 t] w fun r w' => r = .returned (.func (.func 25) #[] (betB w.heap.size)) ∧ Below w.heap.size w w' ∧ DB w.heap.size e (lo a) (up t) w' := by
  have hmf : ∀ (fn : Fn) (first cap : Array Value) (w : World), (Instr.makeFunc fn first cap).run Tryd.prog w = .ok (.func fn first cap) w := fun _ _ _ _ => rfl
  have hA : lo a = max a (-1) := rfl
  have hT : up t = min t 1099511627776 := rfl
  rw [hA, hT]
  obtain ⟨V, hV⟩ : ∃ V, V = ((w.alloc (.cells (exC e) 26)).alloc (.cells #[.int .i64 (max a (-1))] 2)).alloc (.cells #[.int .i64 (min t 1099511627776)] 2) := ⟨_, rfl⟩
  have hb : Below w.heap.size w V := by rw [hV]; exact (((Below.refl _ _).alloc (Nat.le_refl _) _).alloc (by simp) _).alloc (by simp; omega) _
  have q0 : V.heap[w.heap.size]? = some (.cells (exC e) 26 (0, 0)) := by
    rw [hV]; exact (Below.heap_alloc _ _ _ (by simp; omega)).trans (two_new w _ 26 #[.int .i64 (max a (-1))] 2).2.1
  have q1 : V.heap[w.heap.size + 1]? = some (.cells #[.int .i64 (max a (-1))] 2 (0, 0)) := by
    rw [hV]; exact (Below.heap_alloc _ _ _ (by simp)).trans (two_new w _ 26 #[.int .i64 (max a (-1))] 2).2.2.1
  have q2 : V.heap[w.heap.size + 2]? = some (.cells #[.int .i64 (min t 1099511627776)] 2 (0, 0)) := by
    have := (two_new (w.alloc (.cells (exC e) 26)) #[.int .i64 (max a (-1))] 2 #[.int .i64 (min t 1099511627776)] 2).2.2.1
    rw [hV]; simpa using this
  have HV := Lib.hid (And.intro hV (And.intro hb (show DB w.heap.size e (max a (-1)) (min t 1099511627776) V from ⟨q0, q1, q2, hd.old hb⟩)))
  clear hV hb q0 q1 q2 hd
  go_enter Tryd.func13, Tryd.ntmps13
  go_wp2_with go_in
  go_ret
  exact ⟨rfl, by rw [← HV.out.1]; exact HV.out.2⟩
end Go.Proofs.YtheaimlfngaaoaaDoor.Fi

/- fires: all ticks between two: the walk -/
namespace Go.Proofs.YtheaimlfngaaoaaDoor.Fi
open Go.RowKit Go.Lib Go.Proofs.YtheaimlfngaaoaaDoor.Cn Go.Proofs.YtheaimlfngaaoaaDoor.Rg Go.Proofs.YtheaimlfngaaoaaDoor.Ht
attribute [local go_sem] Oper.semAt_some
set_option linter.unusedVariables false

theorem yield_thereT (l : Nat) (w : World) : (binOp BinOp.eql 45 (.func (.yield l) #[] #[]) .nilFunc).run Tryd.prog w = .ok (.bool false) w := by kernel_rfl
/-- what the outer loop keeps -/
structure BO (b yB l : Nat) (e : Ex) (a t : Int) (J : Int → World → Prop) (x : Int) (A : World) : Prop where
  db : DB b e a t A
  yb : A.heap[yB]? = some (.cells #[.func (.yield l) #[] #[]] 45 (0, 0))
  j : ∃ s, J s A ∧ Opn e a x s
/-- .. and the inner one -/
structure BIn (b yB l : Nat) (e : Ex) (a t : Int) (J : Int → World → Prop) (F : Int) (own : Nat → Prop) (A0 : World) (p : Int) (A : World) : Prop where
  db : DB b e a t A
  yb : A.heap[yB]? = some (.cells #[.func (.yield l) #[] #[]] 45 (0, 0))
  j : ∃ s, J s A ∧ Ipn e a F p s
  o : BelowO own A0 A
/-- how it is left -/
def BX (e : Ex) (t : Int) (J K : Int → World → Prop) (c : Code) (A : World) : Prop := c = .ret ∧ ((∃ s, BS e t s ∧ J s A) ∨ ∃ s, K s A)
def BXn (e : Ex) (t : Int) (J K : Int → World → Prop) (B : Nat) (A0 : World) (c : Code) (A : World) : Prop := BX e t J K c A ∧ BelowO (fun k => k < B) A0 A
theorem DB.below {b : Nat} {e : Ex} {F a : Int} {A A' : World} (h : DB b e F a A) {N : Nat} (hb : Below N A A') (h1 : b + 2 < N) (h2 : 1 < N) : DB b e F a A' :=
  ⟨(hb.block b (by omega)).trans h.e, (hb.block _ (by omega)).trans h.f, (hb.block _ h1).trans h.t, h.d.keep (hb.block _ h2)⟩
theorem BelowO.more {own : Nat → Prop} {A B C : World} {N : Nat} (h : BelowO own A B) (hc : Below N B C) (hN : A.heap.size ≤ N) : BelowO own A C :=
  ⟨hc.os.trans h.os, hc.tape.trans h.tape, hc.output.trans h.output, Nat.le_trans h.size hc.size, fun k hk hn => (hc.block k (by omega)).trans (h.block k hk hn)⟩
theorem roundIn_two {n m k j l : Nat} {P : Program} {f : FuncId} {tmps : Array Value} {assign body : Code} {w : World} {R : Ending → World → Prop} (h : RoundIn Fence.wide n P l f tmps assign body w R) : RoundIn ((Fence.wide.inRound k).inRound j) m P l f tmps assign body w R :=
  ⟨h.1, fun c cs _ => h.2 c cs (room_wide _)⟩
theorem leave0 {n : Nat} {fn : Func} {tmps : Array Value} {X : World} {R : Ending → World → Prop} (hres : fn.results = #[]) (h : ∀ v, R (.returned v) X) : LeavesInM Fence.wide n Tryd.prog fn tmps R [] .returning X := ⟨_, results_none hres _ _ _, h _⟩
theorem leaveD {n : Nat} {fn : Func} {tmps : Array Value} {D : Nat} {X : World} {v : Value} {R : Ending → World → Prop} (h : X.heap[D]? = some (.deferred (some [])))
    (hrun : (results fn tmps).run Tryd.prog (X.putObj D (.deferred none)) = .ok v (X.putObj D (.deferred none))) (hR : R (.returned v) (X.putObj D (.deferred none))) :
    LeavesInM Fence.wide n Tryd.prog fn tmps R [{ target := .collected D, args := #[] }] .returning X :=
  ⟨by simp, .inl ⟨D, _, rfl, run_takeDeferred h, ⟨v, hrun, hR⟩⟩⟩
/-- three boxes -/
theorem db_new {Y w' : World} {e : Ex} {f t : Int} (hd : Db Y) (hw' : w' = ((Y.alloc (.cells (exC e) 26)).alloc (.cells #[.int .i64 f] 2)).alloc (.cells #[.int .i64 t] 2)) :
    Below Y.heap.size Y w' ∧ DB Y.heap.size e f t w' ∧ w'.heap.size = Y.heap.size + 3 := by
  subst hw'
  have hb : Below Y.heap.size Y (((Y.alloc (.cells (exC e) 26)).alloc (.cells #[.int .i64 f] 2)).alloc (.cells #[.int .i64 t] 2)) := (((Below.refl _ _).alloc (Nat.le_refl _) _).alloc (by simp) _).alloc (by simp; omega) _
  refine ⟨hb, ⟨?_, ?_, ?_, hd.old hb⟩, by simp⟩
  · exact (Below.heap_alloc _ _ _ (by simp; omega)).trans (two_new Y _ 26 #[.int .i64 f] 2).2.1
  · exact (Below.heap_alloc _ _ _ (by simp)).trans (two_new Y _ 26 #[.int .i64 f] 2).2.2.1
  · have := (two_new (Y.alloc (.cells (exC e) 26)) #[.int .i64 f] 2 #[.int .i64 t] 2).2.2.1
    simpa using this
theorem tb_of {b : Nat} {e : Ex} {f t : Int} {w : World} (h : DB b e f t w) : TB b e f t w := ⟨h.e, h.f, h.t, h.d⟩
set_option maxRecDepth 20000 in
set_option maxHeartbeats 8000000 in
theorem between_iter (n b : Nat) (e : Ex) (he : ExOk e) (a t : Int) (ha : -1 ≤ a ∧ a ≤ 9223372036854775807) (ht : -9223372036854775808 ≤ t ∧ t ≤ 1099511627776) (w : World) (hdb : DB b e a t w) :
    SeqI Fence.wide n Tryd.prog 25 (betB b) (tbox b) a (BG e t) (BS e t) w := by
  intro own l J K W hW hown hJ hK hY hJ0
  have hnil := yield_thereT l
  have hY2 : ∀ x y A, J x A → BG e t x y → W.heap.size ≤ A.heap.size → YieldAt Fence.wide 9 Tryd.prog l #[.int .i64 y] A fun e A' => (e = .returned (.bool true) ∧ J y A' ∧ BelowO own A A') ∨ (e = .returned (.bool false) ∧ K y A' ∧ BelowO (fun k => k < W.heap.size) A A') := fun x y A h1 h2 h3 => yieldAt_any (hY x y A h1 h2 h3)
  refine callsIn_any (n := 9) ?_
  have hdW := hdb.old hW
  obtain ⟨Y, hYd⟩ : ∃ Y, Y = W.alloc (.cells #[.func (.yield l) #[] #[]] 45) := ⟨_, rfl⟩
  obtain ⟨y1, y2, y3⟩ := cell_new W #[.func (.yield l) #[] #[]] 45
  rw [← hYd] at y1 y2 y3
  have hdY := hdW.old y1
  have hjY := hJ _ _ _ hJ0 y1
  have hlW := hdW.lt
  have HY := Lib.hid (And.intro hJ (And.intro hK (And.intro hY2 hown)))
  have HW := Lib.hid (And.intro hYd (And.intro y1 (And.intro y2 (And.intro y3 (And.intro hdY (And.intro hjY hW))))))
  obtain ⟨ky, _⟩ := one_cell y2
  obtain ⟨ka, _⟩ := one_cell hdW.f
  obtain ⟨kt, _⟩ := one_cell hdW.t
  obtain ⟨⟨c0, c1, c2, c3, c4, c5, c6⟩, _⟩ := seven hdW.e
  have hb0 : b < W.heap.size := by omega
  have hb1 : b + 1 < W.heap.size := by omega
  have hb2 : b + 2 < W.heap.size := by omega
  clear hJ hK hY hY2 hJ0 hYd y1 y2 y3 hdY hjY hdW hown hW hdb
  by_cases hat : t ≤ a
  · refine callsIn_of_wp_marks Tryd.func25 rfl trivial ?_ rfl
    simp only [Tryd.ntmps25, List.size_toArray, List.length_cons, List.length_nil, Nat.reduceAdd, Nat.reduceSub, Array.replicate_succ, Array.replicate_zero, List.push_toArray, List.append_toArray, List.nil_append, List.cons_append]
    gi_wp2_with fail
    rw [← HW.out.1]
    exact leave0 rfl fun v => ⟨⟨v, rfl⟩, .inl ⟨a, (fun u h1 h2 => by omega), HW.out.2.2.2.2.2.1⟩⟩
  · have hat' : a < t := by omega
    refine callsIn_of_wp_marks Tryd.func25 rfl trivial ?_ rfl
    simp only [Tryd.ntmps25, List.size_toArray, List.length_cons, List.length_nil, Nat.reduceAdd, Nat.reduceSub, Array.replicate_succ, Array.replicate_zero, List.push_toArray, List.append_toArray, List.nil_append, List.cons_append]
    gi_wp2_with fail
    rw [← HW.out.1]
    clear ky ka kt c0 c1 c2 c3 c4 c5 c6
    refine ⟨trivial, (callsIn_wide.2 (days_any e (a + 1) t Y)).mono ?_⟩
    rintro q w2 ⟨rfl, hw2⟩
    obtain ⟨n1, n2, n3⟩ := db_new HW.out.2.2.2.2.1.d hw2
    have hg64 := HW.out.2.2.2.2.1.d.lt
    have hzY := HW.out.2.2.2.1
    have hbo : BO b W.heap.size l e a t J (a + 1 - (a + 1) % 1440 - 1) w2 := ⟨HW.out.2.2.2.2.1.old n1, old_blk n1 HW.out.2.2.1, a, HY.out.1 _ _ _ HW.out.2.2.2.2.2.1 (n1.mono (by omega)), Opn.start e a⟩
    have HD := Lib.hid (And.intro n1 (And.intro n2 hbo))
    clear hw2 n1 n2 hbo hzY
    gi_wp2_with fail
    refine range_int (own := own) (box := tbox Y.heap.size) (x0 := a + 1 - (a + 1) % 1440 - 1) (G := DG e t) (S := DS e t) rfl (by omega) (gf := 39) (lb := dayBx Y.heap.size) rfl trivial (enters_of Tryd.func39 (by kernel_rfl) rfl)
      (days_iter _ Y.heap.size e he (a + 1) t ⟨by omega, by omega⟩ ht.2 w2 HD.out.2.1) (fun k hk => ⟨fun h => ?hb, ?hlt⟩) rfl
      (BO b W.heap.size l e a t J) (fun c _ => BX e t J K c) (fun x A A' h hc => have hz9 := HD.out.1.size; have hz8 := HW.out.2.2.2.1; ⟨h.db.below hc (by omega) (by omega), (hc.block _ (by omega)).trans h.yb, h.j.elim fun s hs => ⟨s, HY.out.1 _ _ _ hs.1 (hc.mono (by omega)), hs.2⟩⟩)
      (fun c x A A' h hc => have hz9 := HD.out.1.size; have hz8 := HW.out.2.2.2.1; ⟨h.1, h.2.elim (fun ⟨s, h1, h2⟩ => .inl ⟨s, h1, HY.out.1 _ _ _ h2 (hc.mono (by omega))⟩) (fun ⟨s, h1⟩ => .inr ⟨s, HY.out.2.1 _ _ _ h1 (hc.mono (by omega))⟩)⟩) HD.out.2.2 ?hround ?hdone ?hstop
    case hb =>
      have h1 := HY.out.2.2.2 k hk
      have h2 := HW.out.2.2.2.2.2.2.size
      have h3 := HW.out.2.2.2.1
      have h4 := HD.out.1.size
      rcases h with h | h | h | h
      · omega
      · omega
      · omega
      · exact h1.1 (.inr (.inr (.inr h)))
    case hlt =>
      have h1 := HY.out.2.2.2 k hk
      have h2 := HW.out.2.2.2.2.2.2.size
      have h3 := HW.out.2.2.2.1
      have h4 := HD.out.1.size
      omega
    case hround =>
      rintro l1 x F A hlB ⟨rr, hlr⟩ hzA hI hG
      clear hI hlr
      gi_wp2_with fail
      refine ⟨Below.refl _ _, ?_⟩
      intro A2 hbut hrec hI
      have hzA2 : w2.heap.size ≤ A2.heap.size := by have := hbut.2.2.2.1; omega
      obtain ⟨ka, _⟩ := one_cell hI.db.f
      obtain ⟨⟨c0, c1, c2, c3, c4, c5, c6⟩, _⟩ := seven hI.db.e
      have HI := Lib.hid (And.intro hI (And.intro hrec hG))
      clear hI hrec hG hbut
      gi_wp2_with fail
      refine ⟨trivial, CallsIn.inRound l1 ((callsIn_wide.2 (ticks_any e F a A2)).mono ?_)⟩
      rintro q A3 ⟨rfl, hA3⟩
      obtain ⟨n1, n2, n3⟩ := db_new HI.out.1.db.d hA3
      have hin : BIn b W.heap.size l e a t J F own A2 a A3 := ⟨HI.out.1.db.old n1, old_blk n1 HI.out.1.yb, HI.out.1.j.elim (fun s hs => ⟨s, HY.out.1 _ _ _ hs.1 (n1.mono (by have := HD.out.1.size; have := HW.out.2.2.2.1; omega)), hs.2.day HI.out.2.2⟩), BelowO.of n1⟩
      have hrec3 : ∃ r, A3.heap[l1]? = some (.loop r) := HI.out.2.1.elim (fun r hr => ⟨r, (n1.block _ (Array.getElem?_eq_some_iff.1 hr).1).trans hr⟩)
      have HE := Lib.hid (And.intro n1 (And.intro n2 (And.intro n3 (And.intro hin hrec3))))
      clear hA3 n1 n2 n3 hin ka c0 c1 c2 c3 c4 c5 c6 hrec3
      gi_wp2_with fail
      refine range_intN (own := own) (l₀ := l1) (box := tbox A2.heap.size) (x0 := a) (G := TG e F a) (S := TS e F) rfl HE.out.2.2.2.2 (by omega) (gf := 43) (lb := tickB A2.heap.size) rfl trivial (enters_of Tryd.func43 (by kernel_rfl) rfl)
        (ticks_iter _ A2.heap.size e he F a ⟨(dn_day HI.out.2.2.2.1.2).1, by have := HI.out.2.2.2.2.1; omega⟩ ⟨ha.1, by omega⟩ A3 (tb_of HE.out.2.1)) (fun k hk => ⟨fun h => ?hb2, ?hlt2⟩) rfl
        (BIn b W.heap.size l e a t J F own A2) (fun c _ => BXn e t J K w2.heap.size A2 c)
        (fun x A A' h hc => have hz9 := HD.out.1.size; have hz8 := HW.out.2.2.2.1; have hz7 := HE.out.1.size; ⟨h.db.below hc (by omega) (by omega), (hc.block _ (by omega)).trans h.yb, h.j.elim fun s hs => ⟨s, HY.out.1 _ _ _ hs.1 (hc.mono (by omega)), hs.2⟩, BelowO.more h.o hc (by omega)⟩)
        (fun c x A A' h hc => have hz9 := HD.out.1.size; have hz8 := HW.out.2.2.2.1; have hz7 := HE.out.1.size; ⟨⟨h.1.1, h.1.2.elim (fun ⟨s, h1, h2⟩ => .inl ⟨s, h1, HY.out.1 _ _ _ h2 (hc.mono (by omega))⟩) (fun ⟨s, h1⟩ => .inr ⟨s, HY.out.2.1 _ _ _ h1 (hc.mono (by omega))⟩)⟩, BelowO.more h.2 hc (by omega)⟩) HE.out.2.2.2.1 ?hround2 ?hdone2 ?hstop2
      case hb2 =>
        have h1 := HY.out.2.2.2 k hk
        have h2 := HW.out.2.2.2.2.2.2.size
        have h3 := HW.out.2.2.2.1
        have h4 := HD.out.1.size
        rcases h with h | h | h | h
        · omega
        · omega
        · omega
        · exact h1.1 (.inr (.inr (.inr h)))
      case hlt2 =>
        have h1 := HY.out.2.2.2 k hk
        have h2 := HW.out.2.2.2.2.2.2.size
        have h3 := HW.out.2.2.2.1
        have h4 := HD.out.1.size
        have h5 := HE.out.1.size
        omega
      case hround2 =>
        have hownB : ∀ k, own k → k < w2.heap.size := fun k hk => by
          have h1 := HY.out.2.2.2 k hk
          have h2 := HW.out.2.2.2.2.2.2.size
          have h3 := HW.out.2.2.2.1
          have h4 := HD.out.1.size
          omega
        rintro l2 p tk X hlB ⟨rr, hlr⟩ hzX hI hG
        clear hI hlr
        gi_wp2_with fail
        refine ⟨Below.refl _ _, ?_⟩
        intro X2 hbut _ hI
        have hzX2 : A3.heap.size ≤ X2.heap.size := by have := hbut.2.2.2.1; omega
        obtain ⟨kt, _⟩ := one_cell hI.db.t
        obtain ⟨ky, _⟩ := one_cell hI.yb
        obtain ⟨s, hs, hip⟩ := hI.j
        have hdF := HI.out.2.2.2.1.2
        by_cases hfar : t < tk
        · have hbs := hip.far hdF hG hfar
          have HX := Lib.hid (And.intro hI (And.intro hs hbs))
          clear hI hs hip hdF hG hbut hbs
          gi_wp2_with fail
          refine ⟨(fun f h => by cases h), ?_⟩
          gi_wp2_with fail
          exact ⟨BelowO.of (Below.refl _ _), ⟨rfl, .inl ⟨s, HX.out.2.2, HX.out.2.1⟩⟩, HX.out.1.o.weak hownB⟩
        · have hnx := hip.next hdF hG
          have hfar' : tk ≤ t := by omega
          obtain ⟨fn, tmps, assign, body, hy, hR⟩ := HY.out.2.2.1 s tk X2 hs ⟨hnx.1, hfar'⟩ (by have := HD.out.1.size; have := HE.out.1.size; have := HW.out.2.2.2.1; omega)
          have HX := Lib.hid (And.intro hI hnx.2)
          clear hI hs hip hdF hG hbut hnx hfar
          gi_wp2_with fail
          refine (roundIn_two hR).mono ?_
          rintro e' W3 (⟨rfl, hJ3, hm3⟩ | ⟨rfl, hK3, ho3⟩)
          · gi_wp2_with fail
            refine ⟨hm3, HX.out.1.db.keep hm3 (fun k hk => (HY.out.2.2.2 k hk).1), (hm3.block _ (Array.getElem?_eq_some_iff.1 HX.out.1.yb).1 (fun hk => ?_)).trans HX.out.1.yb, ⟨tk, hJ3, HX.out.2⟩, HX.out.1.o.trans hm3⟩
            have h1 := (HY.out.2.2.2 _ hk).2
            have h2 := HW.out.2.2.2.2.2.2.size
            omega
          · gi_wp2_with fail
            have h3 := HW.out.2.2.2.1
            have h4 := HD.out.1.size
            have h5 := HE.out.1.size
            exact ⟨ho3.weak (fun k hk => by omega), ⟨rfl, .inr ⟨_, hK3⟩⟩, (HX.out.1.o.weak hownB).trans (ho3.weak (fun k hk => by omega))⟩
      case hdone2 =>
        rintro x2 X hS hI
        have HX := Lib.hid (And.intro hS hI)
        clear hS hI
        gi_wp2_with fail
        refine ⟨HX.out.2.o, HX.out.2.db, HX.out.2.yb, HX.out.2.j.elim fun s hs => ⟨s, hs.1, hs.2.done HI.out.2.2.2.1.2 HX.out.1⟩⟩
      case hstop2 =>
        rintro c x2 X ⟨⟨rfl, h1⟩, h2⟩
        have HX := Lib.hid (And.intro h1 h2)
        clear h1 h2
        gi_wp2_with fail
        exact ⟨HX.out.2, rfl, HX.out.1⟩
    case hdone =>
      intro D x X hD hS hI hK
      dsimp only
      obtain ⟨s, hs, ho⟩ := hI.j
      have hbs := ho.done hS
      have HX := Lib.hid (And.intro hs (And.intro hbs (And.intro hD hK)))
      clear hS hI hK hs ho hbs hD
      gi_wp2_with fail
      refine leaveD HX.out.2.2.2 (results_none rfl _ _ _) ⟨⟨_, rfl⟩, .inl ⟨s, HX.out.2.1, HY.out.1 _ _ _ HX.out.1 ((but_put D X (.deferred none)).below ?_)⟩⟩
      have h3 := HW.out.2.2.2.1
      have h4 := HD.out.1.size
      have h5 := HX.out.2.2.1
      omega
    case hstop =>
      rintro D c x X hD ⟨rfl, h⟩ hK
      have HX := Lib.hid (And.intro h (And.intro hD hK))
      clear h hK hD
      gi_wp2_with fail
      have h3 := HW.out.2.2.2.1
      have h4 := HD.out.1.size
      have h5 := HX.out.2.1
      have hbl : Below W.heap.size X (X.putObj D (.deferred none)) := (but_put D X (.deferred none)).below (by omega)
      exact leaveD HX.out.2.2 (results_none rfl _ _ _) ⟨⟨_, rfl⟩, HX.out.1.elim (fun ⟨s, g1, g2⟩ => .inl ⟨s, g1, HY.out.1 _ _ _ g2 hbl⟩) (fun ⟨s, g1⟩ => .inr ⟨s, HY.out.2.1 _ _ _ g1 hbl⟩)⟩
end Go.Proofs.YtheaimlfngaaoaaDoor.Fi

/- fires: Next -/
namespace Go.Proofs.YtheaimlfngaaoaaDoor.Fi
open Go.RowKit Go.Lib Go.Proofs.YtheaimlfngaaoaaDoor.Cn Go.Proofs.YtheaimlfngaaoaaDoor.Rg Go.Proofs.YtheaimlfngaaoaaDoor.Ht
attribute [local go_sem] Oper.semAt_some
set_option linter.unusedVariables false

/-- what Next tells -/
def NextIs (e : Ex) (s x : Int) (ok : Bool) : Prop := (ok = true ∧ nx e s x ∧ x ≤ 1099511627776) ∨ (ok = false ∧ x = 0 ∧ BS e 1099511627776 s)
theorem NextIs.same {e : Ex} {s x y : Int} {p q : Bool} (h : NextIs e s x p) (k : NextIs e s y q) : x = y ∧ p = q := by
  rcases h with ⟨rfl, h1, h2⟩ | ⟨rfl, rfl, h1⟩ <;> rcases k with ⟨rfl, k1, k2⟩ | ⟨rfl, rfl, k1⟩
  · exact ⟨nx_same h1 k1, rfl⟩
  · exact absurd h1.2.1 (k1 x h1.1 h2)
  · exact absurd k1.2.1 (h1 y k1.1 k2)
  · exact ⟨rfl, rfl⟩
theorem load_i64 {W : World} {b : Nat} {v : Value} (h : W.cell? ⟨b, 0, none⟩ = some v) : (loadVar 2 ⟨b, 0, none⟩).run Tryd.prog W = .ok v W := by go_simp
theorem load_bool {W : World} {b : Nat} {v : Value} (h : W.cell? ⟨b, 0, none⟩ = some v) : (loadVar 4 ⟨b, 0, none⟩).run Tryd.prog W = .ok v W := by go_simp
theorem results_ib {fn : Func} {tmps : Array Value} {r1 r2 b1 b2 : Nat} {X : World} {v1 v2 : Value}
    (hres : fn.results = #[.cell r1 2, .cell r2 4]) (ht1 : tmps.getD r1 undef = .pointer (some ⟨b1, 0, none⟩)) (ht2 : tmps.getD r2 undef = .pointer (some ⟨b2, 0, none⟩))
    (h1 : X.heap[b1]? = some (.cells #[v1] 2 (0, 0))) (h2 : X.heap[b2]? = some (.cells #[v2] 4 (0, 0))) : (results fn tmps).run Tryd.prog X = .ok (.tuple #[v1, v2]) X := by
  have e1 := load_i64 (one_cell h1).1
  have e2 := load_bool (one_cell h2).1
  have ht1' : tmps[r1]?.getD undef = .pointer (some ⟨b1, 0, none⟩) := by simpa using ht1
  have ht2' : tmps[r2]?.getD undef = .pointer (some ⟨b2, 0, none⟩) := by simpa using ht2
  simp only [results, hres]
  simp [ht1', ht2', Result.andThen, asAddr, e1, e2]
theorem up_max : up 1099511627776 = 1099511627776 := by decide
theorem two_st {X : World} {B : Nat} {v0 u0 v u : Value} {t1 t2 : TypeId} (h1 : X.heap[B + 1]? = some (.cells #[v0] t1 (0, 0))) (h2 : X.heap[B + 2]? = some (.cells #[u0] t2 (0, 0))) :
    ((X.setCell ⟨B + 1, 0, none⟩ v).setCell ⟨B + 1 + 1, 0, none⟩ u).heap[B + 1]? = some (.cells #[v] t1 (0, 0)) ∧ ((X.setCell ⟨B + 1, 0, none⟩ v).setCell ⟨B + 1 + 1, 0, none⟩ u).heap[B + 2]? = some (.cells #[u] t2 (0, 0)) ∧
    Below B X ((X.setCell ⟨B + 1, 0, none⟩ v).setCell ⟨B + 1 + 1, 0, none⟩ u) ∧ ∀ k, B + 2 < k → ((X.setCell ⟨B + 1, 0, none⟩ v).setCell ⟨B + 1 + 1, 0, none⟩ u).heap[k]? = X.heap[k]? := by
  refine ⟨?_, ?_, (((⟨rfl, rfl, rfl, Nat.le_refl _, fun _ _ => rfl⟩ : Below B X X)).setCell (p := ⟨B + 1, 0, none⟩) (Nat.le_succ _) _).setCell (p := ⟨B + 1 + 1, 0, none⟩) (by simp; omega) _, fun k hk => ?_⟩
  · rw [heap_setCell_other _ _ _ _ (by simp)]; exact one_set h1 v
  · exact one_set ((heap_setCell_other _ _ _ _ (by simp)).trans h2) u
  · rw [heap_setCell_other _ _ _ _ (by simp; omega), heap_setCell_other _ _ _ _ (by simp; omega)]
/-- the loop's state, and how it is left -/
structure NI (w : World) (s x : Int) (A : World) : Prop where
  x : x = s
  r1 : A.heap[w.heap.size + 1]? = some (.cells #[.int .i64 0] 2 (0, 0))
  r2 : A.heap[w.heap.size + 2]? = some (.cells #[.bool false] 4 (0, 0))
  b : Below w.heap.size w A
structure NX (w : World) (e : Ex) (s : Int) (c : Code) (x : Int) (A : World) : Prop where
  c : c = .ret
  g : BG e 1099511627776 s x
  r1 : A.heap[w.heap.size + 1]? = some (.cells #[.int .i64 x] 2 (0, 0))
  r2 : A.heap[w.heap.size + 2]? = some (.cells #[.bool true] 4 (0, 0))
  b : Below w.heap.size w A
set_option maxRecDepth 20000 in
set_option maxHeartbeats 8000000 in
theorem next_any (e : Ex) (he : ExOk e) (a : Int) (ha : Ca.I64 a) (w : World) (hd : Db w) :
    Calls Tryd.prog 10 #[exv e, .int .i64 a] w fun r w' => (∃ x ok, r = .returned (.tuple #[.int .i64 x, .bool ok]) ∧ NextIs e (lo a) x ok) ∧ Below w.heap.size w w' := by
  have hlo : -1 ≤ lo a ∧ lo a ≤ 9223372036854775807 := by unfold lo; unfold Ca.I64 at ha; omega
  obtain ⟨V, hV⟩ : ∃ V, V = ((w.alloc (.cells (exC e) 26)).alloc (.cells #[.int .i64 0] 2)).alloc (.cells #[.bool false] 4) := ⟨_, rfl⟩
  have hb : Below w.heap.size w V := by rw [hV]; exact (((Below.refl _ _).alloc (Nat.le_refl _) _).alloc (by simp) _).alloc (by simp; omega) _
  have q0 : V.heap[w.heap.size]? = some (.cells (exC e) 26 (0, 0)) := by
    rw [hV]; exact (Below.heap_alloc _ _ _ (by simp; omega)).trans (two_new w _ 26 #[.int .i64 0] 2).2.1
  have q1 : V.heap[w.heap.size + 1]? = some (.cells #[.int .i64 0] 2 (0, 0)) := by
    rw [hV]; exact (Below.heap_alloc _ _ _ (by simp)).trans (two_new w _ 26 #[.int .i64 0] 2).2.2.1
  have q2 : V.heap[w.heap.size + 2]? = some (.cells #[.bool false] 4 (0, 0)) := by
    have := (two_new (w.alloc (.cells (exC e) 26)) #[.int .i64 0] 2 #[.bool false] 4).2.2.1
    rw [hV]; simpa using this
  have hzV : V.heap.size = w.heap.size + 3 := by rw [hV]; simp
  have hbt := between_any e a 1099511627776 ha (by unfold Ca.I64; omega) V (hd.old hb)
  rw [up_max] at hbt
  have HV := Lib.hid (And.intro hV (And.intro hb (And.intro q0 (And.intro q1 (And.intro q2 (And.intro hzV (And.intro hbt (hd.old hb))))))))
  clear hV hb q0 q1 q2 hzV hbt hd
  refine (callsIn_wide (n := 9)).1 ?_
  refine callsIn_of_wp_marks Tryd.func10 rfl trivial ?_ rfl
  simp only [Tryd.ntmps10, List.size_toArray, List.length_cons, List.length_nil, Nat.reduceAdd, Nat.reduceSub, Array.replicate_succ, Array.replicate_zero, List.push_toArray, List.append_toArray, List.nil_append, List.cons_append]
  gi_wp2_with fail
  rw [← HV.out.1]
  refine ⟨trivial, (callsIn_wide.2 HV.out.2.2.2.2.2.2.1).mono ?_⟩
  rintro q w2 ⟨rfl, hb2, hdb⟩
  have hI0 : NI w (lo a) (lo a) w2 := ⟨rfl, old_blk hb2 HV.out.2.2.2.1, old_blk hb2 HV.out.2.2.2.2.1, HV.out.2.1.trans (hb2.mono HV.out.2.1.size)⟩
  have hz2 : w.heap.size + 3 ≤ w2.heap.size := by have := hb2.size; have := HV.out.2.2.2.2.2.1; omega
  have H2 := Lib.hid (And.intro hdb hI0)
  clear hb2 hdb hI0
  gi_wp2_with fail
  refine range_int (own := fun _ => False) (box := tbox V.heap.size) (x0 := lo a) (G := BG e 1099511627776) (S := BS e 1099511627776) rfl (by omega) (gf := 25) (lb := betB V.heap.size) rfl trivial (enters_of Tryd.func25 (by kernel_rfl) rfl)
    (between_iter _ V.heap.size e he (lo a) 1099511627776 hlo ⟨by omega, by omega⟩ w2 H2.out.1) (fun k hk => hk.elim) rfl
    (NI w (lo a)) (NX w e (lo a)) (fun x A A' h hc => ⟨h.x, (hc.block _ (by omega)).trans h.r1, (hc.block _ (by omega)).trans h.r2, h.b.trans (hc.mono (by omega))⟩)
    (fun c x A A' h hc => ⟨h.c, h.g, (hc.block _ (by omega)).trans h.r1, (hc.block _ (by omega)).trans h.r2, h.b.trans (hc.mono (by omega))⟩) H2.out.2 ?hround ?hdone ?hstop
  case hround =>
    rintro l x y A hlB ⟨rr, hlr⟩ hzA hI hG
    clear hI hlr
    gi_wp2_with fail
    refine ⟨Below.refl _ _, ?_⟩
    intro A2 hbut _ hI
    obtain ⟨k1, f1⟩ := one_cell hI.r1
    obtain ⟨k2, f2⟩ := one_cell hI.r2
    have hzA2 := hbut.2.2.2.1
    have l1 : w.heap.size + 1 < A2.heap.size := by omega
    have l2 : w.heap.size + 2 < A2.heap.size := by omega
    have HI := Lib.hid (And.intro hI hG)
    clear hI hG hbut hzA2
    gi_wp2_with fail
    obtain ⟨g1, g2, g3, g4⟩ := two_st (v := .int .i64 y) (u := .bool true) HI.out.1.r1 HI.out.1.r2
    refine ⟨⟨g3.os, g3.tape, g3.output, g3.size, fun k _ hk => g4 k (by omega)⟩, rfl, ?_, g1, g2, HI.out.1.b.trans g3⟩
    have hx := HI.out.1.x
    rw [← hx]; exact HI.out.2
  case hdone =>
    intro D x X hD hS hI hK
    dsimp only
    obtain ⟨k1, f1⟩ := one_cell hI.r1
    obtain ⟨k2, f2⟩ := one_cell hI.r2
    have HX := Lib.hid (And.intro hS (And.intro hI (And.intro hD hK)))
    have l1 : w.heap.size + 1 < X.heap.size := (Array.getElem?_eq_some_iff.1 hI.r1).1
    have l2 : w.heap.size + 2 < X.heap.size := (Array.getElem?_eq_some_iff.1 hI.r2).1
    clear hS hI hK hD
    gi_wp2_with fail
    obtain ⟨g1, g2, g3, g4⟩ := two_st (v := .int .i64 0) (u := .bool false) HX.out.2.1.r1 HX.out.2.1.r2
    have hDz := HX.out.2.2.1
    generalize (X.setCell ⟨w.heap.size + 1, 0, none⟩ (.int .i64 0)).setCell ⟨w.heap.size + 1 + 1, 0, none⟩ (.bool false) = Z at g1 g2 g3 g4 ⊢
    have hbut := but_put D Z (.deferred none)
    refine leaveD ((g4 D (by omega)).trans HX.out.2.2.2) (results_ib (fn := Tryd.f10) rfl rfl rfl ((hbut.2.2.2.2 _ (by omega)).trans g1) ((hbut.2.2.2.2 _ (by omega)).trans g2)) ⟨⟨0, false, rfl, .inr ⟨rfl, rfl, ?_⟩⟩, ?_⟩
    · have hx := HX.out.2.1.x
      rw [← hx]; exact HX.out.1
    · exact (HX.out.2.1.b.trans g3).trans (hbut.below (by omega))
  case hstop =>
    rintro D c x X hD h hK
    obtain rfl := h.c
    have HX := Lib.hid (And.intro h (And.intro hD hK))
    clear h hK hD
    gi_wp2_with fail
    have hDz := HX.out.2.1
    have hbut := but_put D X (.deferred none)
    exact leaveD HX.out.2.2 (results_ib (fn := Tryd.f10) rfl rfl rfl ((hbut.2.2.2.2 _ (by omega)).trans HX.out.1.r1) ((hbut.2.2.2.2 _ (by omega)).trans HX.out.1.r2)) ⟨⟨x, true, rfl, .inl ⟨rfl, HX.out.1.g⟩⟩, HX.out.1.b.trans (hbut.below (by omega))⟩
end Go.Proofs.YtheaimlfngaaoaaDoor.Fi

/- fires: Ever; the chapter's example; eras, plainly -/
namespace Go.Proofs.YtheaimlfngaaoaaDoor.Fi
open Go.RowKit Go.Lib Go.Proofs.YtheaimlfngaaoaaDoor.Cn Go.Proofs.YtheaimlfngaaoaaDoor.Rg Go.Proofs.YtheaimlfngaaoaaDoor.Ht
set_option linter.unusedVariables false

/-- is any tick named -/
def EverIs (e : Ex) (b : Bool) : Prop := ∃ x, NextIs e (-1) x b
theorem ever_any (e : Ex) (he : ExOk e) (w : World) (hd : Db w) :
    Calls Tryd.prog 16 #[exv e] w fun r w' => (∃ b, r = .returned (.bool b) ∧ EverIs e b) ∧ Below w.heap.size w w' := by
  obtain ⟨V, hV⟩ : ∃ V, V = w.alloc (.cells (exC e) 26) := ⟨_, rfl⟩
  obtain ⟨b1, b2, b3⟩ := cell_new w (exC e) 26
  rw [← hV] at b1 b2 b3
  have hn := next_any e he (-1) (by unfold Ca.I64; omega) V (hd.old b1)
  rw [show lo (-1) = -1 by decide] at hn
  have HV := Lib.hid (And.intro hV (And.intro b1 hn))
  clear hV b1 b2 b3 hn hd he
  go_enter Tryd.func16, Tryd.ntmps16
  go_wp2_with fail
  rw [← HV.out.1]
  refine HV.out.2.2.mono ?_
  rintro q w1 ⟨⟨x, ok, rfl, hx⟩, hb⟩
  have HX := Lib.hid (And.intro hx hb)
  clear hx hb
  go_wp2_with fail
  go_ret
  exact ⟨⟨ok, rfl, x, HX.out.1⟩, HV.out.2.1.trans (HX.out.2.mono HV.out.2.1.size)⟩
/-- the example's expression -/
def E0 : Ex := ⟨1, 1, 536870912, 4, 127, false, true⟩
theorem e0_parse : parseE [48, 32, 48, 32, 50, 57, 32, 50, 32, 42] = 0 ∧ parseV [48, 32, 48, 32, 50, 57, 32, 50, 32, 42] = E0 := by
  constructor
  · decide +kernel
  · kernel_rfl
theorem hb_one {k : Nat} {x : Int} (h : hb (2 ^ k) x = true) : x = k := by
  unfold hb at h
  rw [Bool.and_eq_true, decide_eq_true_eq, Nat.testBit_two_pow, decide_eq_true_eq] at h
  omega
theorem e0_nm {t : Int} (h : nm E0 t) : ∃ y wd, Ca.IsM t y 2 29 wd 0 0 := by
  obtain ⟨y, mo, d, wd, hh, mi, i, hn⟩ := h
  unfold namesB at hn
  have e : E0 = ⟨2 ^ 0, 2 ^ 0, 2 ^ 29, 2 ^ 2, 127, false, true⟩ := rfl
  rw [e] at hn
  simp only [Bool.and_eq_true] at hn
  obtain ⟨h1, h2, h3, h4⟩ := hn
  rw [if_pos (by decide)] at h4
  rw [Bool.and_eq_true] at h4
  obtain rfl := hb_one h1
  obtain rfl := hb_one h2
  obtain rfl := hb_one h3
  obtain rfl := hb_one h4.1
  exact ⟨y, wd, i⟩
theorem e0_at {t y wd : Int} (i : Ca.IsM t y 2 29 wd 0 0) : t = 1440 * (Ca.ah y + 59) ∧ 2000 ≤ y ∧ Ca.lp y = true := by
  have h1 := i.day; have h2 := i.h; have h3 := i.mi; have h4 := i.y0; have h5 := i.d2
  have e1 : Ca.mb y 2 = 31 := by unfold Ca.mb; simp
  refine ⟨by omega, h4, ?_⟩
  cases hl : Ca.lp y
  · exfalso
    unfold Ca.dm at h5
    rw [hl] at h5
    simp at h5
  · rfl
theorem e0_one : nx E0 0 84960 := by
  refine ⟨by omega, ⟨2000, 2, 29, 2, 0, 0, ⟨by decide, by decide, by decide, by decide, by decide, by decide, by decide, by decide, by decide⟩, by decide +kernel⟩, fun u h1 h2 hu => ?_⟩
  obtain ⟨y, wd, i⟩ := e0_nm hu
  obtain ⟨h3, h4, _⟩ := e0_at i
  have := Ca.ah_ge h4
  omega
theorem e0_two : nx E0 84960 2188800 := by
  refine ⟨by omega, ⟨2004, 2, 29, 0, 0, 0, ⟨by decide, by decide, by decide, by decide, by decide, by decide, by decide, by decide, by decide⟩, by decide +kernel⟩, fun u h1 h2 hu => ?_⟩
  obtain ⟨y, wd, i⟩ := e0_nm hu
  obtain ⟨h3, h4, h5⟩ := e0_at i
  rw [Ca.lp_iff (by omega)] at h5
  have h6 := Ca.ah_ge h4
  have h7 : y ≤ 2006 := by omega
  have h8 : y = 2000 ∨ y = 2004 := by omega
  rcases h8 with rfl | rfl
  · have : Ca.ah 2000 = 0 := by decide
    omega
  · have : Ca.ah 2004 = 1461 := by decide
    omega
theorem e0_ok : ExOk E0 := ⟨by decide, by decide, by decide, by decide, by decide⟩
theorem next_known {e : Ex} (he : ExOk e) {a x : Int} {ok : Bool} (ha : Ca.I64 a) (h : NextIs e (lo a) x ok) (w : World) (hd : Db w) :
    Calls Tryd.prog 10 #[exv e, .int .i64 a] w fun r w' => r = .returned (.tuple #[.int .i64 x, .bool ok]) ∧ Below w.heap.size w w' := by
  refine (next_any e he a ha w hd).mono ?_
  rintro r w' ⟨⟨y, q, rfl, hy⟩, hb⟩
  obtain ⟨rfl, rfl⟩ := hy.same h
  exact ⟨rfl, hb⟩

set_option maxRecDepth 20000 in
set_option maxHeartbeats 4000000 in
theorem lives08_any (w : World) (hg : Gd w) : Calls Tryd.prog 7 #[] w fun e w' => e = .returned (.bool true) ∧ Below w.heap.size w w' := by
  have hp := parse_any [48, 32, 48, 32, 50, 57, 32, 50, 32, 42] w hg.gl
  rw [e0_parse.1, e0_parse.2] at hp
  have k1 := fun W hW => next_known e0_ok (a := 0) (x := 84960) (ok := true) (by unfold Ca.I64; omega) (.inl ⟨rfl, e0_one, by omega⟩) W hW
  have k2 := fun W hW => next_known e0_ok (a := 84960) (x := 2188800) (ok := true) (by unfold Ca.I64; omega) (.inl ⟨rfl, e0_two, by omega⟩) W hW
  have hd : Db w := hg.db
  obtain ⟨e0, he0⟩ : ∃ e0, e0 = E0 := ⟨_, rfl⟩
  rw [← he0] at hp k1 k2
  have HP := Lib.hid hp
  have HK := Lib.hid (And.intro hd (And.intro k1 k2))
  clear hp k1 k2 hd hg he0
  go_enter Tryd.func7, Tryd.ntmps7
  go_wp2_with fail
  refine HP.out.mono ?_
  rintro e w1 ⟨rfl, hb⟩
  have HB := Lib.hid hb
  obtain ⟨a1, a2, a3⟩ := cell_new w1 (exC e0) 26
  have hd1 := (HK.out.1.old hb).old a1
  have H1 := Lib.hid (And.intro a1 (And.intro a2 hd1))
  clear hb a1 a2 a3 hd1
  go_wp2_with fail
  refine (HK.out.2.1 _ H1.out.2.2).mono ?_
  rintro e w2 ⟨rfl, hb⟩
  have H2 := Lib.hid (And.intro (old_blk hb H1.out.2.1) (And.intro (H1.out.1.trans (hb.mono H1.out.1.size)) (H1.out.2.2.old hb)))
  obtain ⟨⟨c0, c1, c2, c3, c4, c5, c6⟩, _⟩ := seven H2.out.1
  clear hb
  go_wp2_with fail
  refine (HK.out.2.2 _ H2.out.2.2).mono ?_
  rintro e w3 ⟨rfl, hb⟩
  have H3 := Lib.hid (H2.out.2.1.trans (hb.mono H2.out.2.1.size))
  clear hb c0 c1 c2 c3 c4 c5 c6
  go_wp2_with fail
  go_ret
  exact ⟨rfl, HB.out.trans (H3.out.mono HB.out.size)⟩

/-- whatever is named is named again behind any tick -/
theorem nm_again {e : Ex} {u : Int} (h : nm e u) : ∀ k : Nat, nm e (u + 210379680 * k)
  | 0 => by rw [show u + 210379680 * ((0 : Nat) : Int) = u by omega]; exact h
  | k + 1 => by
    have h0 := nm_nonneg h
    have := (nm_era (e := e) (t := u + 210379680 * k) (by omega)).2 (nm_again h k)
    rw [show u + 210379680 * ((k + 1 : Nat) : Int) = u + 210379680 * k + 210379680 by omega]
    exact this
theorem none_ever {e : Ex} {t : Int} (h0 : -1 ≤ t) (h1 : t + 210379680 ≤ 1099511627776) (h : BS e 1099511627776 t) : ∀ u, ¬ nm e u := fun u hu => by
  have hn := never (p := nm e) (a := t + 1) (fun v hv => (nm_era hv).1) (by omega) (fun v v1 v2 => h v (by omega) (by omega))
  have hu0 := nm_nonneg hu
  exact hn _ (by omega) (nm_again hu (t + 1).toNat)
theorem nx_era {e : Ex} {t a : Int} (h0 : 0 ≤ t) (h : nx e t a) : nx e (t + 210379680) (a + 210379680) ∧ a ≤ t + 210379680 := by
  have ha := nm_nonneg h.2.1
  refine ⟨⟨by have := h.1; omega, (nm_era ha).2 h.2.1, fun u h1 h2 hu => ?_⟩, ?_⟩
  · refine h.2.2 (u - 210379680) (by omega) (by omega) ((nm_era (by omega)).1 ?_)
    rw [show u - 210379680 + 210379680 = u by omega]; exact hu
  · by_cases hc : a ≤ t + 210379680
    · exact hc
    · exfalso
      refine h.2.2 (a - 210379680) (by omega) (by omega) ((nm_era (by omega)).1 ?_)
      rw [show a - 210379680 + 210379680 = a by omega]; exact h.2.1
theorem eras {e : Ex} {t a b : Int} {ok is ev : Bool} (h0 : 0 ≤ t) (h1 : t ≤ 4294967295) (ha : NextIs e t a ok) (hb : NextIs e (t + 210379680) b is) (hv : EverIs e ev) : is = ok ∧ ev = ok ∧ (ok = true → b = a + 210379680) := by
  obtain ⟨x, hv⟩ := hv
  rcases ha with ⟨rfl, a1, a2⟩ | ⟨rfl, rfl, a1⟩
  · obtain ⟨e1, e2⟩ := nx_era h0 a1
    obtain ⟨rfl, rfl⟩ := hb.same (.inl ⟨rfl, e1, by omega⟩)
    refine ⟨rfl, ?_, fun _ => rfl⟩
    rcases hv with ⟨rfl, _⟩ | ⟨rfl, _, h2⟩
    · rfl
    · exact absurd a1.2.1 (h2 a (by have := nm_nonneg a1.2.1; omega) a2)
  · have hn := none_ever (by omega) (by omega) a1
    refine ⟨?_, ?_, fun h => by cases h⟩
    · rcases hb with ⟨rfl, h2, _⟩ | ⟨rfl, _⟩
      · exact absurd h2.2.1 (hn _)
      · rfl
    · rcases hv with ⟨rfl, h2, _⟩ | ⟨rfl, _⟩
      · exact absurd h2.2.1 (hn _)
      · rfl
end Go.Proofs.YtheaimlfngaaoaaDoor.Fi
