
/- fires: all ticks between two: the walk -/
import Derived.Test.YtkkanggkbbmfnaaGreatDoorFi7
namespace Go.Proofs.YtkkanggkbbmfnaaGreatDoor.Fi
open Go.RowKit Go.Lib Go.Proofs.YtkkanggkbbmfnaaGreatDoor.Cn Go.Proofs.YtkkanggkbbmfnaaGreatDoor.Rg Go.Proofs.YtkkanggkbbmfnaaGreatDoor.Ht
attribute [local go_sem] Oper.semAt_some
set_option linter.unusedVariables false

theorem yield_thereT (l : Nat) (w : World) : (binOp BinOp.eql 55 (.func (.yield l) #[] #[]) .nilFunc).run Tryz.prog w = .ok (.bool false) w := by kernel_rfl
/-- what the outer loop keeps -/
structure BO (b yB l : Nat) (e : Ex) (a t : Int) (J : Int → World → Prop) (x : Int) (A : World) : Prop where
  db : DB b e a t A
  yb : A.heap[yB]? = some (.cells #[.func (.yield l) #[] #[]] 55 (0, 0))
  j : ∃ s, J s A ∧ Opn e a x s
/-- .. and the inner one -/
structure BIn (b yB l : Nat) (e : Ex) (a t : Int) (J : Int → World → Prop) (F : Int) (own : Nat → Prop) (A0 : World) (p : Int) (A : World) : Prop where
  db : DB b e a t A
  yb : A.heap[yB]? = some (.cells #[.func (.yield l) #[] #[]] 55 (0, 0))
  j : ∃ s, J s A ∧ Ipn e a F p s
  o : BelowO own A0 A
/-- how it is left -/
def BX (e : Ex) (t : Int) (J K : Int → World → Prop) (c : Code) (A : World) : Prop := c = .ret ∧ ((∃ s, BS e t s ∧ J s A) ∨ ∃ s, K s A)
def BXn (e : Ex) (t : Int) (J K : Int → World → Prop) (B : Nat) (A0 : World) (c : Code) (A : World) : Prop := BX e t J K c A ∧ BelowO (fun k => k < B) A0 A
theorem DB.below {b : Nat} {e : Ex} {F a : Int} {A A' : World} (h : DB b e F a A) {N : Nat} (hb : Below N A A') (h1 : b + 2 < N) (h2 : 5 < N) : DB b e F a A' :=
  ⟨(hb.block b (by omega)).trans h.e, (hb.block _ (by omega)).trans h.f, (hb.block _ h1).trans h.t, h.d.keep (hb.block _ h2)⟩
theorem BelowO.more {own : Nat → Prop} {A B C : World} {N : Nat} (h : BelowO own A B) (hc : Below N B C) (hN : A.heap.size ≤ N) : BelowO own A C :=
  ⟨hc.os.trans h.os, hc.tape.trans h.tape, hc.output.trans h.output, Nat.le_trans h.size hc.size, fun k hk hn => (hc.block k (by omega)).trans (h.block k hk hn)⟩
theorem roundIn_two {n m k j l : Nat} {P : Program} {f : FuncId} {tmps : Array Value} {assign body : Code} {w : World} {R : Ending → World → Prop} (h : RoundIn Fence.wide n P l f tmps assign body w R) : RoundIn ((Fence.wide.inRound k).inRound j) m P l f tmps assign body w R :=
  ⟨h.1, fun c cs _ => h.2 c cs (room_wide _)⟩
theorem leave0 {n : Nat} {fn : Func} {tmps : Array Value} {X : World} {R : Ending → World → Prop} (hres : fn.results = #[]) (h : ∀ v, R (.returned v) X) : LeavesInM Fence.wide n Tryz.prog fn tmps R [] .returning X := ⟨_, results_none hres _ _ _, h _⟩
theorem leaveD {n : Nat} {fn : Func} {tmps : Array Value} {D : Nat} {X : World} {v : Value} {R : Ending → World → Prop} (h : X.heap[D]? = some (.deferred (some [])))
    (hrun : (results fn tmps).run Tryz.prog (X.putObj D (.deferred none)) = .ok v (X.putObj D (.deferred none))) (hR : R (.returned v) (X.putObj D (.deferred none))) :
    LeavesInM Fence.wide n Tryz.prog fn tmps R [{ target := .collected D, args := #[] }] .returning X :=
  ⟨by simp, .inl ⟨D, _, rfl, run_takeDeferred h, ⟨v, hrun, hR⟩⟩⟩
/-- three boxes -/
theorem db_new {Y w' : World} {e : Ex} {f t : Int} (hd : Db Y) (hw' : w' = ((Y.alloc (.cells (exC e) 57)).alloc (.cells #[.int .i64 f] 2)).alloc (.cells #[.int .i64 t] 2)) :
    Below Y.heap.size Y w' ∧ DB Y.heap.size e f t w' ∧ w'.heap.size = Y.heap.size + 3 := by
  subst hw'
  have hb : Below Y.heap.size Y (((Y.alloc (.cells (exC e) 57)).alloc (.cells #[.int .i64 f] 2)).alloc (.cells #[.int .i64 t] 2)) := (((Below.refl _ _).alloc (Nat.le_refl _) _).alloc (by simp) _).alloc (by simp; omega) _
  refine ⟨hb, ⟨?_, ?_, ?_, hd.old hb⟩, by simp⟩
  · exact (Below.heap_alloc _ _ _ (by simp; omega)).trans (two_new Y _ 57 #[.int .i64 f] 2).2.1
  · exact (Below.heap_alloc _ _ _ (by simp)).trans (two_new Y _ 57 #[.int .i64 f] 2).2.2.1
  · have := (two_new (Y.alloc (.cells (exC e) 57)) #[.int .i64 f] 2 #[.int .i64 t] 2).2.2.1
    simpa using this
theorem tb_of {b : Nat} {e : Ex} {f t : Int} {w : World} (h : DB b e f t w) : TB b e f t w := ⟨h.e, h.f, h.t, h.d⟩
set_option maxRecDepth 20000 in
set_option maxHeartbeats 8000000 in
theorem between_iter (n b : Nat) (e : Ex) (he : ExOk e) (a t : Int) (ha : -1 ≤ a ∧ a ≤ 9223372036854775807) (ht : -9223372036854775808 ≤ t ∧ t ≤ 1099511627776) (w : World) (hdb : DB b e a t w) :
    SeqI Fence.wide n Tryz.prog 43 (betB b) (tbox b) a (BG e t) (BS e t) w := by
  intro own l J K W hW hown hJ hK hY hJ0
  have hnil := yield_thereT l
  have hY2 : ∀ x y A, J x A → BG e t x y → W.heap.size ≤ A.heap.size → YieldAt Fence.wide 9 Tryz.prog l #[.int .i64 y] A fun e A' => (e = .returned (.bool true) ∧ J y A' ∧ BelowO own A A') ∨ (e = .returned (.bool false) ∧ K y A' ∧ BelowO (fun k => k < W.heap.size) A A') := fun x y A h1 h2 h3 => yieldAt_any (hY x y A h1 h2 h3)
  refine callsIn_any (n := 9) ?_
  have hdW := hdb.old hW
  obtain ⟨Y, hYd⟩ : ∃ Y, Y = W.alloc (.cells #[.func (.yield l) #[] #[]] 55) := ⟨_, rfl⟩
  obtain ⟨y1, y2, y3⟩ := cell_new W #[.func (.yield l) #[] #[]] 55
  rw [← hYd] at y1 y2 y3
  have hdY := hdW.old y1
  have hjY := hJ _ _ _ hJ0 y1
  have hlW := hdW.lt
  have HY := Lib.hid (And.intro hJ (And.intro hK (And.intro hY2 hown)))
  have HW := Lib.hid (And.intro hYd (And.intro y1 (And.intro y2 (And.intro y3 (And.intro hdY (And.intro hjY hW))))))
  obtain ⟨ky, _⟩ := one_cell y2
  obtain ⟨ka, _⟩ := one_cell hdW.f
  obtain ⟨kt, _⟩ := one_cell hdW.t
  obtain ⟨⟨c0, c1, c2, c3, c4, c5, c6⟩, _⟩ := seven hdW.e
  have hb0 : b < W.heap.size := by omega
  have hb1 : b + 1 < W.heap.size := by omega
  have hb2 : b + 2 < W.heap.size := by omega
  clear hJ hK hY hY2 hJ0 hYd y1 y2 y3 hdY hjY hdW hown hW hdb
  by_cases hat : t ≤ a
  · refine callsIn_of_wp_marks Tryz.func43 rfl trivial ?_ rfl
    simp only [Tryz.ntmps43, List.size_toArray, List.length_cons, List.length_nil, Nat.reduceAdd, Nat.reduceSub, Array.replicate_succ, Array.replicate_zero, List.push_toArray, List.append_toArray, List.nil_append, List.cons_append]
    gi_wp2_with fail
    rw [← HW.out.1]
    exact leave0 rfl fun v => ⟨⟨v, rfl⟩, .inl ⟨a, (fun u h1 h2 => by omega), HW.out.2.2.2.2.2.1⟩⟩
  · have hat' : a < t := by omega
    refine callsIn_of_wp_marks Tryz.func43 rfl trivial ?_ rfl
    simp only [Tryz.ntmps43, List.size_toArray, List.length_cons, List.length_nil, Nat.reduceAdd, Nat.reduceSub, Array.replicate_succ, Array.replicate_zero, List.push_toArray, List.append_toArray, List.nil_append, List.cons_append]
    gi_wp2_with fail
    rw [← HW.out.1]
    clear ky ka kt c0 c1 c2 c3 c4 c5 c6
    refine ⟨trivial, (callsIn_wide.2 (days_any e (a + 1) t Y)).mono ?_⟩
    rintro q w2 ⟨rfl, hw2⟩
    obtain ⟨n1, n2, n3⟩ := db_new HW.out.2.2.2.2.1.d hw2
    have hg64 := HW.out.2.2.2.2.1.d.lt
    have hzY := HW.out.2.2.2.1
    have hbo : BO b W.heap.size l e a t J (a + 1 - (a + 1) % 1440 - 1) w2 := ⟨HW.out.2.2.2.2.1.old n1, old_blk n1 HW.out.2.2.1, a, HY.out.1 _ _ _ HW.out.2.2.2.2.2.1 (n1.mono (by omega)), Opn.start e a⟩
    have HD := Lib.hid (And.intro n1 (And.intro n2 hbo))
    clear hw2 n1 n2 hbo hzY
    gi_wp2_with fail
    refine range_int (own := own) (box := tbox Y.heap.size) (x0 := a + 1 - (a + 1) % 1440 - 1) (G := DG e t) (S := DS e t) rfl (by omega) (gf := 66) (lb := dayBx Y.heap.size) rfl trivial (enters_of Tryz.func66 (by kernel_rfl) rfl)
      (days_iter _ Y.heap.size e he (a + 1) t ⟨by omega, by omega⟩ ht.2 w2 HD.out.2.1) (fun k hk => ⟨fun h => ?hb, ?hlt⟩) rfl
      (BO b W.heap.size l e a t J) (fun c _ => BX e t J K c) (fun x A A' h hc => have hz9 := HD.out.1.size; have hz8 := HW.out.2.2.2.1; ⟨h.db.below hc (by omega) (by omega), (hc.block _ (by omega)).trans h.yb, h.j.elim fun s hs => ⟨s, HY.out.1 _ _ _ hs.1 (hc.mono (by omega)), hs.2⟩⟩)
      (fun c x A A' h hc => have hz9 := HD.out.1.size; have hz8 := HW.out.2.2.2.1; ⟨h.1, h.2.elim (fun ⟨s, h1, h2⟩ => .inl ⟨s, h1, HY.out.1 _ _ _ h2 (hc.mono (by omega))⟩) (fun ⟨s, h1⟩ => .inr ⟨s, HY.out.2.1 _ _ _ h1 (hc.mono (by omega))⟩)⟩) HD.out.2.2 ?hround ?hdone ?hstop
    case hb =>
      have h1 := HY.out.2.2.2 k hk
      have h2 := HW.out.2.2.2.2.2.2.size
      have h3 := HW.out.2.2.2.1
      have h4 := HD.out.1.size
      rcases h with h | h | h | h
      · omega
      · omega
      · omega
      · exact h1.1 (.inr (.inr (.inr h)))
    case hlt =>
      have h1 := HY.out.2.2.2 k hk
      have h2 := HW.out.2.2.2.2.2.2.size
      have h3 := HW.out.2.2.2.1
      have h4 := HD.out.1.size
      omega
    case hround =>
      rintro l1 x F A hlB ⟨rr, hlr⟩ hzA hI hG
      clear hI hlr
      gi_wp2_with fail
      refine ⟨Below.refl _ _, ?_⟩
      intro A2 hbut hrec hI
      have hzA2 : w2.heap.size ≤ A2.heap.size := by have := hbut.2.2.2.1; omega
      obtain ⟨ka, _⟩ := one_cell hI.db.f
      obtain ⟨⟨c0, c1, c2, c3, c4, c5, c6⟩, _⟩ := seven hI.db.e
      have HI := Lib.hid (And.intro hI (And.intro hrec hG))
      clear hI hrec hG hbut
      gi_wp2_with fail
      refine ⟨trivial, CallsIn.inRound l1 ((callsIn_wide.2 (ticks_any e F a A2)).mono ?_)⟩
      rintro q A3 ⟨rfl, hA3⟩
      obtain ⟨n1, n2, n3⟩ := db_new HI.out.1.db.d hA3
      have hin : BIn b W.heap.size l e a t J F own A2 a A3 := ⟨HI.out.1.db.old n1, old_blk n1 HI.out.1.yb, HI.out.1.j.elim (fun s hs => ⟨s, HY.out.1 _ _ _ hs.1 (n1.mono (by have := HD.out.1.size; have := HW.out.2.2.2.1; omega)), hs.2.day HI.out.2.2⟩), BelowO.of n1⟩
      have hrec3 : ∃ r, A3.heap[l1]? = some (.loop r) := HI.out.2.1.elim (fun r hr => ⟨r, (n1.block _ (Array.getElem?_eq_some_iff.1 hr).1).trans hr⟩)
      have HE := Lib.hid (And.intro n1 (And.intro n2 (And.intro n3 (And.intro hin hrec3))))
      clear hA3 n1 n2 n3 hin ka c0 c1 c2 c3 c4 c5 c6 hrec3
      gi_wp2_with fail
      refine range_intN (own := own) (l₀ := l1) (box := tbox A2.heap.size) (x0 := a) (G := TG e F a) (S := TS e F) rfl HE.out.2.2.2.2 (by omega) (gf := 72) (lb := tickB A2.heap.size) rfl trivial (enters_of Tryz.func72 (by kernel_rfl) rfl)
        (ticks_iter _ A2.heap.size e he F a ⟨(dn_day HI.out.2.2.2.1.2).1, by have := HI.out.2.2.2.2.1; omega⟩ ⟨ha.1, by omega⟩ A3 (tb_of HE.out.2.1)) (fun k hk => ⟨fun h => ?hb2, ?hlt2⟩) rfl
        (BIn b W.heap.size l e a t J F own A2) (fun c _ => BXn e t J K w2.heap.size A2 c)
        (fun x A A' h hc => have hz9 := HD.out.1.size; have hz8 := HW.out.2.2.2.1; have hz7 := HE.out.1.size; ⟨h.db.below hc (by omega) (by omega), (hc.block _ (by omega)).trans h.yb, h.j.elim fun s hs => ⟨s, HY.out.1 _ _ _ hs.1 (hc.mono (by omega)), hs.2⟩, BelowO.more h.o hc (by omega)⟩)
        (fun c x A A' h hc => have hz9 := HD.out.1.size; have hz8 := HW.out.2.2.2.1; have hz7 := HE.out.1.size; ⟨⟨h.1.1, h.1.2.elim (fun ⟨s, h1, h2⟩ => .inl ⟨s, h1, HY.out.1 _ _ _ h2 (hc.mono (by omega))⟩) (fun ⟨s, h1⟩ => .inr ⟨s, HY.out.2.1 _ _ _ h1 (hc.mono (by omega))⟩)⟩, BelowO.more h.2 hc (by omega)⟩) HE.out.2.2.2.1 ?hround2 ?hdone2 ?hstop2
      case hb2 =>
        have h1 := HY.out.2.2.2 k hk
        have h2 := HW.out.2.2.2.2.2.2.size
        have h3 := HW.out.2.2.2.1
        have h4 := HD.out.1.size
        rcases h with h | h | h | h
        · omega
        · omega
        · omega
        · exact h1.1 (.inr (.inr (.inr h)))
      case hlt2 =>
        have h1 := HY.out.2.2.2 k hk
        have h2 := HW.out.2.2.2.2.2.2.size
        have h3 := HW.out.2.2.2.1
        have h4 := HD.out.1.size
        have h5 := HE.out.1.size
        omega
      case hround2 =>
        have hownB : ∀ k, own k → k < w2.heap.size := fun k hk => by
          have h1 := HY.out.2.2.2 k hk
          have h2 := HW.out.2.2.2.2.2.2.size
          have h3 := HW.out.2.2.2.1
          have h4 := HD.out.1.size
          omega
        rintro l2 p tk X hlB ⟨rr, hlr⟩ hzX hI hG
        clear hI hlr
        gi_wp2_with fail
        refine ⟨Below.refl _ _, ?_⟩
        intro X2 hbut _ hI
        have hzX2 : A3.heap.size ≤ X2.heap.size := by have := hbut.2.2.2.1; omega
        obtain ⟨kt, _⟩ := one_cell hI.db.t
        obtain ⟨ky, _⟩ := one_cell hI.yb
        obtain ⟨s, hs, hip⟩ := hI.j
        have hdF := HI.out.2.2.2.1.2
        by_cases hfar : t < tk
        · have hbs := hip.far hdF hG hfar
          have HX := Lib.hid (And.intro hI (And.intro hs hbs))
          clear hI hs hip hdF hG hbut hbs
          gi_wp2_with fail
          refine ⟨(fun f h => by cases h), ?_⟩
          gi_wp2_with fail
          exact ⟨BelowO.of (Below.refl _ _), ⟨rfl, .inl ⟨s, HX.out.2.2, HX.out.2.1⟩⟩, HX.out.1.o.weak hownB⟩
        · have hnx := hip.next hdF hG
          have hfar' : tk ≤ t := by omega
          obtain ⟨fn, tmps, assign, body, hy, hR⟩ := HY.out.2.2.1 s tk X2 hs ⟨hnx.1, hfar'⟩ (by have := HD.out.1.size; have := HE.out.1.size; have := HW.out.2.2.2.1; omega)
          have HX := Lib.hid (And.intro hI hnx.2)
          clear hI hs hip hdF hG hbut hnx hfar
          gi_wp2_with fail
          refine (roundIn_two hR).mono ?_
          rintro e' W3 (⟨rfl, hJ3, hm3⟩ | ⟨rfl, hK3, ho3⟩)
          · gi_wp2_with fail
            refine ⟨hm3, HX.out.1.db.keep hm3 (fun k hk => (HY.out.2.2.2 k hk).1), (hm3.block _ (Array.getElem?_eq_some_iff.1 HX.out.1.yb).1 (fun hk => ?_)).trans HX.out.1.yb, ⟨tk, hJ3, HX.out.2⟩, HX.out.1.o.trans hm3⟩
            have h1 := (HY.out.2.2.2 _ hk).2
            have h2 := HW.out.2.2.2.2.2.2.size
            omega
          · gi_wp2_with fail
            have h3 := HW.out.2.2.2.1
            have h4 := HD.out.1.size
            have h5 := HE.out.1.size
            exact ⟨ho3.weak (fun k hk => by omega), ⟨rfl, .inr ⟨_, hK3⟩⟩, (HX.out.1.o.weak hownB).trans (ho3.weak (fun k hk => by omega))⟩
      case hdone2 =>
        rintro x2 X hS hI
        have HX := Lib.hid (And.intro hS hI)
        clear hS hI
        gi_wp2_with fail
        refine ⟨HX.out.2.o, HX.out.2.db, HX.out.2.yb, HX.out.2.j.elim fun s hs => ⟨s, hs.1, hs.2.done HI.out.2.2.2.1.2 HX.out.1⟩⟩
      case hstop2 =>
        rintro c x2 X ⟨⟨rfl, h1⟩, h2⟩
        have HX := Lib.hid (And.intro h1 h2)
        clear h1 h2
        gi_wp2_with fail
        exact ⟨HX.out.2, rfl, HX.out.1⟩
    case hdone =>
      intro D x X hD hS hI hK
      dsimp only
      obtain ⟨s, hs, ho⟩ := hI.j
      have hbs := ho.done hS
      have HX := Lib.hid (And.intro hs (And.intro hbs (And.intro hD hK)))
      clear hS hI hK hs ho hbs hD
      gi_wp2_with fail
      refine leaveD HX.out.2.2.2 (results_none rfl _ _ _) ⟨⟨_, rfl⟩, .inl ⟨s, HX.out.2.1, HY.out.1 _ _ _ HX.out.1 ((but_put D X (.deferred none)).below ?_)⟩⟩
      have h3 := HW.out.2.2.2.1
      have h4 := HD.out.1.size
      have h5 := HX.out.2.2.1
      omega
    case hstop =>
      rintro D c x X hD ⟨rfl, h⟩ hK
      have HX := Lib.hid (And.intro h (And.intro hD hK))
      clear h hK hD
      gi_wp2_with fail
      have h3 := HW.out.2.2.2.1
      have h4 := HD.out.1.size
      have h5 := HX.out.2.1
      have hbl : Below W.heap.size X (X.putObj D (.deferred none)) := (but_put D X (.deferred none)).below (by omega)
      exact leaveD HX.out.2.2 (results_none rfl _ _ _) ⟨⟨_, rfl⟩, HX.out.1.elim (fun ⟨s, g1, g2⟩ => .inl ⟨s, g1, HY.out.1 _ _ _ g2 hbl⟩) (fun ⟨s, g1⟩ => .inr ⟨s, HY.out.2.1 _ _ _ g1 hbl⟩)⟩
end Go.Proofs.YtkkanggkbbmfnaaGreatDoor.Fi
