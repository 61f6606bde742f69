
/- a range over a function that tells integers, each hanging on the one ahead; within a round of another one too (of no program) -/
import Derived.Test.YtkkanggkbbmfnaaGreatDoorRy
namespace Go.Proofs.YtkkanggkbbmfnaaGreatDoor.Rg
open Go.RowKit

/-- what an iterator says that tells integers: J at the last one that was told -/
def SeqI (F : Fence) (n : Nat) (P : Program) (g : Nat) (lb : Array Value) (box : Nat → Prop) (x0 : Int) (G : Int → Int → Prop) (S : Int → Prop) (w : World) : Prop :=
  ∀ (own : Nat → Prop) (l : Nat) (J K : Int → World → Prop) (W : World), Below w.heap.size w W → (∀ k, own k → ¬ box k ∧ k < w.heap.size) →
    (∀ x A A', J x A → Below W.heap.size A A' → J x A') → (∀ x A A', K x A → Below W.heap.size A A' → K x A') →
    (∀ x y A, J x A → G x y → W.heap.size ≤ A.heap.size → YieldAt F (n - 1) P l #[.int .i64 y] A fun e A' => (e = .returned (.bool true) ∧ J y A' ∧ BelowO own A A') ∨ (e = .returned (.bool false) ∧ K y A' ∧ BelowO (fun k => k < W.heap.size) A A')) →
    J x0 W →
    CallsIn F n P g (#[.func (.yield l) #[] #[]] ++ lb) W fun e W' => (∃ v, e = .returned v) ∧ ((∃ x, S x ∧ J x W') ∨ ∃ x, K x W')

/-- how a round ends -/
def postI (own : Nat → Prop) (B : Nat) (y : Int) (I : Int → World → Prop) (Ix : Code → Int → World → Prop) (W : World) : Exit → Act → World → Prop
  | .normal, _, W' => BelowO own W W' ∧ I y W'
  | .exit id, _, W' => BelowO (fun k => k < B) W W' ∧ Ix (.exit id) y W'
  | .ret, _, W' => BelowO (fun k => k < B) W W' ∧ Ix .ret y W'
  | _, _, _ => False
theorem BelowO.but {own : Nat → Prop} {l : Nat} {a b : World} (h : But l a b) (hl : own l) : BelowO own a b :=
  ⟨h.1, h.2.1, h.2.2.1, Nat.le_of_eq h.2.2.2.1.symm, fun k _ hn => h.2.2.2.2 k (fun e => hn (e ▸ hl))⟩
theorem BelowO.weak {p q : Nat → Prop} {a b : World} (h : BelowO p a b) (hpq : ∀ k, p k → q k) : BelowO q a b := ⟨h.os, h.tape, h.output, h.size, fun k hk hn => h.block k hk (fun x => hn (hpq k x))⟩

variable {F : Fence} {n : Nat} {P : Program}
/-- one round of a loop whose record lies at l -/
theorem round_int {own : Nat → Prop} {B l : Nat} {fn : FuncId} {tm : Array Value} {ps : Array Tmp} {assign body : Code} {dd : Nat} {x y : Int} {A : World} {I : Int → World → Prop} {Ix : Code → Int → World → Prop} {R : World → Prop}
    (hps : ps.size = 1) (hfn : F.fn fn) (hBl : B ≤ l) (hown : ∀ k, own k → k < B)
    (hI : ∀ x A A', I x A → Below B A A' → I x A') (hIx : ∀ c x A A', Ix c x A → Below B A A' → Ix c x A')
    (hR : ∀ A A', R A → (∀ k, B ≤ k → k < A.heap.size → k ≠ l → A'.heap[k]? = A.heap[k]?) → R A')
    (i2 : A.heap[l]? = some (.loop { state := .ready, pending := none, fn, tmps := tm, params := ps, assign, body, defers := dd })) (hr : R A)
    (hround : assign.wpIn (F.inRound l) (n - 1) P (Exit.then (fun a' A1 => Below A.heap.size A A1 ∧ ∀ A2, But l A1 A2 → (∃ r, A2.heap[l]? = some (.loop r)) → I x A2 → body.wpIn (F.inRound l) (n - 1) P (postI own B y I Ix A2) a' A2) (fun _ _ _ => False))
        { tmps := (ps.zip #[.int .i64 y]).foldl (fun t (p, v) => t.setIfInBounds p v) tm, defers := [] } A) (hi : I x A) :
    YieldAt F (n - 1) P l #[.int .i64 y] A fun e A' =>
      (e = .returned (.bool true) ∧ (I y A' ∧ A'.heap[l]? = some (.loop { state := .ready, pending := none, fn, tmps := tm, params := ps, assign, body, defers := dd }) ∧ R A') ∧ BelowO own A A') ∨
      (e = .returned (.bool false) ∧ (∃ c, Ix c y A' ∧ A'.heap[l]? = some (.loop { state := .done, pending := some c, fn, tmps := tm, params := ps, assign, body, defers := dd }) ∧ R A') ∧ BelowO (fun k => k < l + 1) A A') := by
  have hlt := (Array.getElem?_eq_some_iff.1 i2).1
  have hy := run_yield (P := P) (args := #[.int .i64 y]) i2 (by rw [hps]; rfl)
  refine ⟨fn, _, assign, body, hy, roundIn_of_wpIn hfn (wpIn_mono hround ?_)⟩
  rintro e a' A1 hq
  obtain rfl : e = .normal := by cases e <;> first | rfl | exact hq.elim
  obtain ⟨hb1, hbody⟩ := hq
  have l1 := (hb1.block _ hlt).trans i2
  have lt1 := (Array.getElem?_eq_some_iff.1 l1).1
  refine ⟨_, run_beginRound l1 rfl, ?_⟩
  have hbut := but_put l A1 (.loop { state := .busy, pending := none, fn, tmps := tm, params := ps, assign, body, defers := dd })
  have hl2 : (A1.putObj l (.loop { state := .busy, pending := none, fn, tmps := tm, params := ps, assign, body, defers := dd })).heap[l]? = some (.loop { state := .busy, pending := none, fn, tmps := tm, params := ps, assign, body, defers := dd }) := World.putObj_heap_same lt1
  generalize A1.putObj l (.loop { state := .busy, pending := none, fn, tmps := tm, params := ps, assign, body, defers := dd }) = A2 at hbut hl2
  have j1 : I x A2 := hI x A1 A2 (hI x A A1 hi (hb1.mono (by omega))) (hbut.below hBl)
  have hsz1 := hb1.size
  have lt2 := (Array.getElem?_eq_some_iff.1 hl2).1
  refine wpIn_mono (hbody A2 hbut ⟨_, hl2⟩ j1) ?_
  have hsz2 := hbut.2.2.2.1
  have fin : ∀ (jump : Option Code) (A3 : World), BelowO (fun k => k < B) A2 A3 →
      ∃ A4, (Instr.endRound l jump).run P A3 = .ok (.bool jump.isNone) A4 ∧ But l A3 A4 ∧
        A4.heap[l]? = some (.loop { state := if jump.isNone then .ready else .done, pending := jump, fn, tmps := tm, params := ps, assign, body, defers := dd }) ∧ R A4 := fun jump A3 hk => by
    have l3 := (hk.block l lt2 (by omega)).trans hl2
    have hend := run_endRound (P := P) jump l3
    have lt3 := (Array.getElem?_eq_some_iff.1 l3).1
    have hbut3 := but_put l A3 (.loop { state := if jump.isNone then .ready else .done, pending := jump, fn, tmps := tm, params := ps, assign, body, defers := dd })
    refine ⟨_, hend, hbut3, World.putObj_heap_same lt3, hR A _ hr fun k h1 h2 h3 => ?_⟩
    rw [hbut3.2.2.2.2 k h3, hk.block k (by omega) (by omega), hbut.2.2.2.2 k h3, hb1.block k h2]
  have all : ∀ {p : Nat → Prop} (A3 A4 : World), BelowO p A2 A3 → But l A3 A4 → BelowO (fun k => p k ∨ k = l) A A4 := fun A3 A4 h1 h2 =>
    ⟨by rw [h2.1, h1.os, hbut.1, hb1.os], by rw [h2.2.1, h1.tape, hbut.2.1, hb1.tape], by rw [h2.2.2.1, h1.output, hbut.2.2.1, hb1.output], by rw [h2.2.2.2.1]; have := h1.size; omega, fun k hk hn => by
      rw [h2.2.2.2.2 k (fun e => hn (.inr e)), h1.block k (by omega) (fun e => hn (.inl e)), hbut.2.2.2.2 k (fun e => hn (.inr e)), hb1.block k hk]⟩
  have out : ∀ (c : Code) (A3 : World), BelowO (fun k => k < B) A2 A3 → Ix c y A3 → ∃ v A4, (Instr.endRound l (some c)).run P A3 = .ok v A4 ∧
      ((Ending.returned v = .returned (.bool true) ∧ (I y A4 ∧ A4.heap[l]? = some (.loop { state := .ready, pending := none, fn, tmps := tm, params := ps, assign, body, defers := dd }) ∧ R A4) ∧ BelowO own A A4) ∨
      (Ending.returned v = .returned (.bool false) ∧ (∃ c, Ix c y A4 ∧ A4.heap[l]? = some (.loop { state := .done, pending := some c, fn, tmps := tm, params := ps, assign, body, defers := dd }) ∧ R A4) ∧ BelowO (fun k => k < l + 1) A A4)) := fun c A3 hk hix => by
    obtain ⟨A4, he, hb4, h4, r4⟩ := fin (some c) A3 hk
    exact ⟨_, _, he, .inr ⟨rfl, ⟨c, hIx c y _ _ hix (hb4.below hBl), h4, r4⟩, (all A3 A4 hk hb4).weak (fun k hk => by rcases hk with h | h <;> omega)⟩⟩
  rintro e a3 A3 hp
  cases e with
  | normal =>
    obtain ⟨hk, hi3⟩ := hp
    obtain ⟨A4, he, hb4, h4, r4⟩ := fin none A3 (hk.weak hown)
    refine ⟨_, _, he, .inl ⟨rfl, ⟨hI _ _ _ hi3 (hb4.below hBl), h4, r4⟩, ?_⟩⟩
    have ha := all A3 A4 hk hb4
    refine ⟨ha.os, ha.tape, ha.output, ha.size, fun k hk hn => ?_⟩
    by_cases hkl : k = l
    · subst hkl; rw [i2]; exact h4
    · exact ha.block k hk (fun h => h.elim hn hkl)
  | ret => exact out _ A3 hp.1 hp.2
  | exit id => exact out _ A3 hp.1 hp.2
  | goto t => exact hp.elim
  | panic ch => exact hp.elim
  | outgrown => exact hp.elim

theorem range_int {own : Nat → Prop} {g : Operand} {ps : Array Tmp} {assign body : Code} {Q : Exit → Act → World → Prop} {a : Act} {w : World} {box : Nat → Prop} {x0 : Int} {G : Int → Int → Prop} {S : Int → Prop}
    (hro : F.round = none) (h1 : 1 ≤ n) {gf : Nat} {lb : Array Value} (hg : a.eval g = .func (.func gf) #[] lb) (hFg : F.fn gf) (eg : ∀ args w, (callFunc gf args).run P w = .ok (.enter gf args) w)
    (hseq : SeqI F (n - 1) P gf lb box x0 G S w) (hown : ∀ k, own k → ¬ box k ∧ k < w.heap.size) (hps : ps.size = 1)
    (I : Int → World → Prop) (Ix : Code → Int → World → Prop) (hI : ∀ x A A', I x A → Below w.heap.size A A' → I x A') (hIx : ∀ c x A A', Ix c x A → Below w.heap.size A A' → Ix c x A') (h0 : I x0 w)
    (hround : ∀ (l : Nat) (x y : Int) (A : World), w.heap.size < l → (∃ r, A.heap[l]? = some (.loop r)) → w.heap.size ≤ A.heap.size → I x A → G x y →
      assign.wpIn (F.inRound l) (n - 1 - 1) P (Exit.then (fun a' A1 => Below A.heap.size A A1 ∧ ∀ A2, But l A1 A2 → (∃ r, A2.heap[l]? = some (.loop r)) → I x A2 → body.wpIn (F.inRound l) (n - 1 - 1) P (postI own w.heap.size y I Ix A2) a' A2) (fun _ _ _ => False))
        { tmps := (ps.zip #[.int .i64 y]).foldl (fun t (p, v) => t.setIfInBounds p v) a.tmps, defers := [] } A)
    (hdone : ∀ (D : Nat) (x : Int) (A : World), w.heap.size ≤ D → S x → I x A → A.heap[D]? = some (.deferred (some [])) → Q .normal { a with defers := { target := .collected D, args := #[] } :: a.defers } A)
    (hstop : ∀ (D : Nat) (c : Code) (x : Int) (A : World), w.heap.size ≤ D → Ix c x A → A.heap[D]? = some (.deferred (some [])) → c.wpIn F n P Q { a with defers := { target := .collected D, args := #[] } :: a.defers } A) :
    (Code.rangeFunc g ps assign body).wpIn F n P Q a w := by
  refine wpIn_rangeFunc ?_
  intro fn hfn
  rw [hro]
  have hin := run_enterLoop_outer (P := P) (w := w) fn a.tmps ps assign body
  obtain ⟨U, hU⟩ : ∃ U, U = (w.alloc (.deferred (some []))).alloc (.loop { state := .ready, pending := none, fn, tmps := a.tmps, params := ps, assign, body, defers := w.heap.size }) := ⟨_, rfl⟩
  have hWb : Below w.heap.size w U := by rw [hU]; exact ((Below.refl _ _).alloc (Nat.le_refl _) _).alloc (by simp) _
  have hWd : U.heap[w.heap.size]? = some (.deferred (some [])) := by rw [hU]; exact (Below.heap_alloc _ _ _ (by simp)).trans (World.alloc_heap_new w _)
  have hWl : U.heap[w.heap.size + 1]? = some (.loop { state := .ready, pending := none, fn, tmps := a.tmps, params := ps, assign, body, defers := w.heap.size }) := by
    have := World.alloc_heap_new (w.alloc (.deferred (some []))) (.loop { state := .ready, pending := none, fn, tmps := a.tmps, params := ps, assign, body, defers := w.heap.size }); rw [World.size_alloc] at this; rw [hU]; exact this
  have hUz : U.heap.size = w.heap.size + 2 := by rw [hU]; simp
  refine ⟨_, _, U, { target := .fn (.func gf) lb, args := #[.func (.yield (w.heap.size + 1)) #[] #[]] }, U, gf, #[.func (.yield (w.heap.size + 1)) #[] #[]] ++ lb, U, by rw [hU]; exact hin, ?_, ?_, ?_, fun _ => h1, ?_⟩
  · simp only [resolve, hg]; simp [go_sem]
  · intro f' hf'; simp [Target.leads] at hf'; subst hf'; exact hFg
  · simp [invoke, go_sem, eg]
  · refine (hseq own (w.heap.size + 1)
      (fun x A => I x A ∧ A.heap[w.heap.size + 1]? = some (.loop { state := .ready, pending := none, fn, tmps := a.tmps, params := ps, assign, body, defers := w.heap.size }) ∧ A.heap[w.heap.size]? = some (.deferred (some [])))
      (fun x A => ∃ c, Ix c x A ∧ A.heap[w.heap.size + 1]? = some (.loop { state := .done, pending := some c, fn, tmps := a.tmps, params := ps, assign, body, defers := w.heap.size }) ∧ A.heap[w.heap.size]? = some (.deferred (some [])))
      U hWb hown ?_ ?_ ?_ ⟨hI x0 w U h0 hWb, hWl, hWd⟩).mono ?_
    · rintro x A A' ⟨i1, i2, i3⟩ hb
      exact ⟨hI x A A' i1 (hb.mono (by omega)), (hb.block _ (by omega)).trans i2, (hb.block _ (by omega)).trans i3⟩
    · rintro x A A' ⟨c, i1, i2, i3⟩ hb
      exact ⟨c, hIx c x A A' i1 (hb.mono (by omega)), (hb.block _ (by omega)).trans i2, (hb.block _ (by omega)).trans i3⟩
    · rintro x y A ⟨i1, i2, i3⟩ hgx hzA
      refine (round_int (x := x) (own := own) (B := w.heap.size) (I := I) (Ix := Ix) (R := fun A : World => w.heap.size < A.heap.size ∧ A.heap[w.heap.size]? = some (.deferred (some []))) hps hfn (Nat.le_succ _) (fun k hk => (hown k hk).2) hI hIx ?_ i2 ⟨by omega, i3⟩ (hround _ x y A (Nat.lt_succ_self _) ⟨_, i2⟩ (by omega) i1 hgx) i1).mono ?_
      · rintro A A' ⟨r1, r2⟩ h
        have := (h w.heap.size (Nat.le_refl _) r1 (by omega)).trans r2
        exact ⟨(Array.getElem?_eq_some_iff.1 this).1, this⟩
      · rintro e A' (⟨rfl, ⟨h1, h2, h3⟩, h4⟩ | ⟨rfl, ⟨c, h1, h2, h3⟩, h4⟩)
        · exact .inl ⟨rfl, ⟨h1, h2, h3.2⟩, h4⟩
        · exact .inr ⟨rfl, ⟨c, h1, h2, h3.2⟩, h4.weak (fun k hk => by omega)⟩
    · rintro e A ⟨⟨v, rfl⟩, (⟨x, hS, i1, i2, i3⟩ | ⟨x, c, i1, i2, i3⟩)⟩
      · have hend := run_endLoop (P := P) i2 (by simp)
        have hbut3 := but_put (w.heap.size + 1) A (.loop { state := .exhausted, pending := none, fn, tmps := a.tmps, params := ps, assign, body, defers := w.heap.size })
        exact ⟨none, _, hend, hdone _ x _ (Nat.le_refl _) hS (hI _ _ _ i1 (hbut3.below (Nat.le_succ _))) ((World.putObj_heap_other (by omega)).trans i3)⟩
      · have hend := run_endLoop (P := P) i2 (by simp)
        have hbut3 := but_put (w.heap.size + 1) A (.loop { state := .exhausted, pending := some c, fn, tmps := a.tmps, params := ps, assign, body, defers := w.heap.size })
        exact ⟨some c, _, hend, hstop _ c x _ (Nat.le_refl _) (hIx c _ _ _ i1 (hbut3.below (Nat.le_succ _))) ((World.putObj_heap_other (by omega)).trans i3)⟩

/-- .. within a round of loop l₀ -/
theorem range_intN {own : Nat → Prop} {g : Operand} {ps : Array Tmp} {assign body : Code} {Q : Exit → Act → World → Prop} {a : Act} {w : World} {box : Nat → Prop} {x0 : Int} {G : Int → Int → Prop} {S : Int → Prop}
    {l₀ : Nat} (hro : F.round = some l₀) (hl₀ : ∃ r, w.heap[l₀]? = some (.loop r)) (h1 : 1 ≤ n) {gf : Nat} {lb : Array Value} (hg : a.eval g = .func (.func gf) #[] lb) (hFg : F.fn gf) (eg : ∀ args w, (callFunc gf args).run P w = .ok (.enter gf args) w)
    (hseq : SeqI F (n - 1) P gf lb box x0 G S w) (hown : ∀ k, own k → ¬ box k ∧ k < w.heap.size) (hps : ps.size = 1)
    (I : Int → World → Prop) (Ix : Code → Int → World → Prop) (hI : ∀ x A A', I x A → Below w.heap.size A A' → I x A') (hIx : ∀ c x A A', Ix c x A → Below w.heap.size A A' → Ix c x A') (h0 : I x0 w)
    (hround : ∀ (l : Nat) (x y : Int) (A : World), w.heap.size ≤ l → (∃ r, A.heap[l]? = some (.loop r)) → w.heap.size ≤ A.heap.size → I x A → G x y →
      assign.wpIn (F.inRound l) (n - 1 - 1) P (Exit.then (fun a' A1 => Below A.heap.size A A1 ∧ ∀ A2, But l A1 A2 → (∃ r, A2.heap[l]? = some (.loop r)) → I x A2 → body.wpIn (F.inRound l) (n - 1 - 1) P (postI own w.heap.size y I Ix A2) a' A2) (fun _ _ _ => False))
        { tmps := (ps.zip #[.int .i64 y]).foldl (fun t (p, v) => t.setIfInBounds p v) a.tmps, defers := [] } A)
    (hdone : ∀ (x : Int) (A : World), S x → I x A → Q .normal a A)
    (hstop : ∀ (c : Code) (x : Int) (A : World), Ix c x A → c.wpIn F n P Q a A) :
    (Code.rangeFunc g ps assign body).wpIn F n P Q a w := by
  obtain ⟨r₀, hl₀⟩ := hl₀
  refine wpIn_rangeFunc ?_
  intro fn hfn
  rw [hro]
  have hin := run_enterLoop_inner (P := P) hl₀ fn a.tmps ps assign body
  obtain ⟨U, hU⟩ : ∃ U, U = w.alloc (.loop { state := .ready, pending := none, fn, tmps := a.tmps, params := ps, assign, body, defers := r₀.defers }) := ⟨_, rfl⟩
  have hWb : Below w.heap.size w U := by rw [hU]; exact (Below.refl _ _).alloc (Nat.le_refl _) _
  have hWl : U.heap[w.heap.size]? = some (.loop { state := .ready, pending := none, fn, tmps := a.tmps, params := ps, assign, body, defers := r₀.defers }) := by rw [hU]; exact World.alloc_heap_new w _
  have hUz : U.heap.size = w.heap.size + 1 := by rw [hU]; simp
  refine ⟨_, _, U, { target := .fn (.func gf) lb, args := #[.func (.yield w.heap.size) #[] #[]] }, U, gf, #[.func (.yield w.heap.size) #[] #[]] ++ lb, U, by rw [hU]; exact hin, ?_, ?_, ?_, fun _ => h1, ?_⟩
  · simp only [resolve, hg]; simp [go_sem]
  · intro f' hf'; simp [Target.leads] at hf'; subst hf'; exact hFg
  · simp [invoke, go_sem, eg]
  · refine (hseq own w.heap.size
      (fun x A => I x A ∧ A.heap[w.heap.size]? = some (.loop { state := .ready, pending := none, fn, tmps := a.tmps, params := ps, assign, body, defers := r₀.defers }))
      (fun x A => ∃ c, Ix c x A ∧ A.heap[w.heap.size]? = some (.loop { state := .done, pending := some c, fn, tmps := a.tmps, params := ps, assign, body, defers := r₀.defers }))
      U hWb hown ?_ ?_ ?_ ⟨hI x0 w U h0 hWb, hWl⟩).mono ?_
    · rintro x A A' ⟨i1, i2⟩ hb
      exact ⟨hI x A A' i1 (hb.mono (by omega)), (hb.block _ (by omega)).trans i2⟩
    · rintro x A A' ⟨c, i1, i2⟩ hb
      exact ⟨c, hIx c x A A' i1 (hb.mono (by omega)), (hb.block _ (by omega)).trans i2⟩
    · rintro x y A ⟨i1, i2⟩ hgx hzA
      refine (round_int (x := x) (own := own) (B := w.heap.size) (I := I) (Ix := Ix) (R := fun _ => True) hps hfn (Nat.le_refl _) (fun k hk => (hown k hk).2) hI hIx (fun _ _ _ _ => trivial) i2 trivial (hround _ x y A (Nat.le_refl _) ⟨_, i2⟩ (by omega) i1 hgx) i1).mono ?_
      rintro e A' (⟨rfl, ⟨h1, h2, h3⟩, h4⟩ | ⟨rfl, ⟨c, h1, h2, h3⟩, h4⟩)
      · exact .inl ⟨rfl, ⟨h1, h2⟩, h4⟩
      · exact .inr ⟨rfl, ⟨c, h1, h2⟩, h4.weak (fun k hk => by omega)⟩
    · rintro e A ⟨⟨v, rfl⟩, (⟨x, hS, i1, i2⟩ | ⟨x, c, i1, i2⟩)⟩
      · have hend := run_endLoop (P := P) i2 (by simp)
        have hbut3 := but_put w.heap.size A (.loop { state := .exhausted, pending := none, fn, tmps := a.tmps, params := ps, assign, body, defers := r₀.defers })
        exact ⟨none, _, hend, hdone x _ hS (hI _ _ _ i1 (hbut3.below (Nat.le_refl _)))⟩
      · have hend := run_endLoop (P := P) i2 (by simp)
        have hbut3 := but_put w.heap.size A (.loop { state := .exhausted, pending := some c, fn, tmps := a.tmps, params := ps, assign, body, defers := r₀.defers })
        exact ⟨some c, _, hend, hstop c x _ (hIx c _ _ _ i1 (hbut3.below (Nat.le_refl _)))⟩
end Go.Proofs.YtkkanggkbbmfnaaGreatDoor.Rg
